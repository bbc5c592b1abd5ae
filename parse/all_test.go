package parse_test

import (
	"slices"
	"strings"
	"testing"

	"moraine/api"
	"moraine/datum"
	"moraine/parse"
)

func TestP5_2All(t *testing.T) {
	for _, s := range []string{"", " ", "\n\t\r\f ", ";", "; (a", "#||#", " #| a |# ; b"} {
		checkAll(t, s, nil, answer{})
	}
	a, b, nothing := sym("a"), sym("b"), api.Datum{}
	checkAll(t, "a", []api.Datum{a}, answer{})
	checkAll(t, "a b", []api.Datum{a, b}, answer{})
	checkAll(t, " ;x\n a(b)#()'a \"b\"|a|#| |#", []api.Datum{a, pair(b, nothing), vec(), pair(sym("quote"), pair(a, nothing)), datum.Str("b"), a}, answer{})
	checkAll(t, "()()[](a . b)", []api.Datum{nothing, nothing, nothing, pair(a, b)}, answer{})
	checkAll(t, strings.Repeat("a ", 2048), slices.Repeat([]api.Datum{a}, 2048), answer{})
	checkAll(t, strings.Repeat("()", 2048), slices.Repeat([]api.Datum{nothing}, 2048), answer{})
	checkAll(t, strings.Repeat("'a", 2048), slices.Repeat([]api.Datum{pair(sym("quote"), pair(a, nothing))}, 2048), answer{})
}

// parseErrors are texts in which something is wrong.
func parseErrors() map[string]answer {
	m := map[string]answer{
		")": wrong(0, api.ErrForm), "]": wrong(0, api.ErrForm), ".": wrong(0, api.ErrForm), "(a . )": wrong(5, api.ErrForm), "(a]": wrong(2, api.ErrForm), "('": wrong(1, api.ErrEnd), "(a (b": wrong(3, api.ErrEnd),
		"'": wrong(0, api.ErrEnd), "#(" + strings.Repeat("a ", 63) + ")": wrong(126, api.ErrBig), strings.Repeat("[", 65): wrong(64, api.ErrDeep), "(\"\\q\")": wrong(2, api.ErrForm), "(a #|": wrong(3, api.ErrEnd),
	}
	for s, last := range lexErrors() {
		m[s] = last
	}
	return m
}

func TestP5_2Errors(t *testing.T) {
	for s, last := range parseErrors() {
		for n := range 4 {
			ahead := slices.Repeat([]api.Datum{pair(sym("a"), api.Datum{})}, n)
			text := strings.Repeat("(a) ", n) + s
			want := wrong(4*n+last.place, last.err)
			checkAll(t, text, ahead, want)
			// What stands behind an error is not looked at.
			if last.err != api.ErrEnd {
				checkAll(t, text+"\n(\"", ahead, want)
				checkAll(t, text+"\nb", ahead, want)
			}
		}
	}
	for _, s := range []string{strings.Repeat("a ", 2048) + "a", strings.Repeat(" ", 4097), strings.Repeat(")", 4097)} {
		checkAll(t, s, nil, wrong(0, api.ErrLong))
	}
}

func TestP5_2Model(t *testing.T) {
	for s := range manyTexts {
		want, last := modelAll(s)
		checkAll(t, s, want, last)
	}
}

func TestP5_3MayBe(t *testing.T) {
	read := 0
	for s := range manyTexts {
		l, _, _ := parse.All(s)
		read += len(l)
		for _, d := range l {
			if !datum.May(d) {
				t.Fatalf("%+v of %q may not be", d, s)
			}
		}
	}
	if read < 5000 {
		t.Errorf("just %d data were read", read)
	}
	for _, s := range []string{
		strings.Repeat("(", 64) + strings.Repeat(")", 64), strings.Repeat("#(", 64) + strings.Repeat(")", 64), strings.Repeat("'", 64) + "a", strings.Repeat("'", 63) + "#()",
		"#(" + strings.Repeat("#() ", 62) + ")", "(" + strings.Repeat("a ", 2000) + ". b)", strings.Repeat("(a . ", 63) + "#()" + strings.Repeat(")", 63),
	} {
		if d, _, _, _ := parse.One(s, 0); d.Kind == api.DatNil || !datum.May(d) {
			t.Errorf("%q: %+v", s, d)
		}
	}
}

func TestP5_4DatumOrError(t *testing.T) {
	for s := range manyTexts {
		for at := range len(s) + 1 {
			d, next, place, e := parse.One(s, at)
			switch {
			case e == api.OK && place == 0 && next > at && next <= len(s):
			case e != api.OK && next == 0 && place >= at && place <= len(s) && datum.Same(d, api.Datum{}):
			default:
				t.Fatalf("One(%q, %d): %+v, %d, %d, %d", s, at, d, next, place, e)
			}
		}
		if _, place, e := parse.All(s); place < 0 || place > len(s) || e == api.OK && place != 0 || e == api.ErrNone {
			t.Fatalf("All(%q): %d, %d", s, place, e)
		}
	}
}

func TestP5_5Parts(t *testing.T) {
	var last string
	for s := range manyTexts {
		one, other := last, s
		last = s
		l, place, e := parse.All(one)
		if e == api.ErrEnd {
			continue
		}
		if e == api.OK {
			more, at, err := parse.All(other)
			l = append(l, more...)
			if err != api.OK {
				place, e = len(one)+1+at, err
			}
		}
		checkAll(t, one+"\n"+other, l, wrong(place, e))
	}
}

func TestP5_6Marks(t *testing.T) {
	marks := map[string]string{"'": "quote", "`": "quasiquote", ",": "unquote", ",@": "unquote-splicing"}
	texts := []string{"a", "7", "\"\"", "#t", "#\\a", "()", "[]", "#()", "(a . b)", "#(a (b))", "'a", ",@,`'a", "(a 'b . c)"}
	m := newMaker()
	for range 500 {
		texts = append(texts, strings.TrimSpace(m.text(m.tokens(5))))
	}
	for _, s := range texts {
		d, _, _, e := parse.One(s, 0)
		if e != api.OK {
			t.Fatalf("One(%q, 0): %d", s, e)
		}
		for mark, name := range marks {
			want := pair(sym(name), pair(d, api.Datum{}))
			checkAll(t, mark+s, []api.Datum{want}, answer{})
			checkAll(t, mark+" "+s, []api.Datum{want}, answer{})
			checkAll(t, "("+name+" "+s+"\n)", []api.Datum{want}, answer{})
			checkAll(t, "["+name+" . ("+s+"\n)]", []api.Datum{want}, answer{})
		}
	}
}

func TestP5_6Brackets(t *testing.T) {
	m := newMaker()
	for range 2000 {
		l := m.tokens(6)
		round := slices.Clone(l)
		for i, token := range l {
			switch token {
			case "[":
				round[i] = "("
			case "]":
				round[i] = ")"
			}
		}
		want, _, e := parse.All(strings.Join(round, " "))
		if e != api.OK {
			t.Fatalf("All(%q): %d", strings.Join(round, " "), e)
		}
		checkAll(t, strings.Join(l, " "), want, answer{})
	}
}
