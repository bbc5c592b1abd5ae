package parse_test

import (
	"math"
	"strings"
	"testing"

	"moraine/api"
	"moraine/datum"
	"moraine/parse"
)

func TestP5_1Forms(t *testing.T) {
	a, b, c, nothing := sym("a"), sym("b"), sym("c"), api.Datum{}
	for s, want := range map[string]api.Datum{
		"a": a, "7": datum.Int(7), "\"a\"": datum.Str("a"), "#t": {Kind: api.DatTrue}, "#false": {Kind: api.DatNo}, "#\\)": {Kind: api.DatChar, C: ')'}, "|.|": sym("."),
		"-4294967297": {Kind: api.DatInt, N: api.Num{Neg: true, Mag: []uint32{1, 1}}},
		"()":          nothing, "[]": nothing, "( ;)\n)": nothing,
		"(a)": pair(a, nothing), "[a]": pair(a, nothing), "(a b c)": pair(a, pair(b, pair(c, nothing))), "(a[b]c)": pair(a, pair(pair(b, nothing), pair(c, nothing))),
		"(())": pair(nothing, nothing), "[() ([])]": pair(nothing, pair(pair(nothing, nothing), nothing)),
		"(a . b)": pair(a, b), "[a . b]": pair(a, b), "(a b . c)": pair(a, pair(b, c)), "(a . ())": pair(a, nothing), "(a . #(b))": pair(a, vec(b)),
		"(a . (b [c]))": pair(a, pair(b, pair(pair(c, nothing), nothing))), "(a . [b . c])": pair(a, pair(b, c)), "((a . b) . (b . c))": pair(pair(a, b), pair(b, c)),
		"(a . 'b)": pair(a, pair(sym("quote"), pair(b, nothing))), "('a . b)": pair(pair(sym("quote"), pair(a, nothing)), b), "(#| |#a;\n.\tb\r)": pair(a, b),
		"#()": vec(), "#(a)": vec(a), "#(a #() (b))": vec(a, vec(), pair(b, nothing)), "#((a . b) 'c)": vec(pair(a, b), pair(sym("quote"), pair(c, nothing))),
		"'a": pair(sym("quote"), pair(a, nothing)), "`a": pair(sym("quasiquote"), pair(a, nothing)), ",a": pair(sym("unquote"), pair(a, nothing)), ",@a": pair(sym("unquote-splicing"), pair(a, nothing)),
		"' ;\n()": pair(sym("quote"), pair(nothing, nothing)), "'#(a)": pair(sym("quote"), pair(vec(a), nothing)), "'(a . b)": pair(sym("quote"), pair(pair(a, b), nothing)),
		"`,'a":    pair(sym("quasiquote"), pair(pair(sym("unquote"), pair(pair(sym("quote"), pair(a, nothing)), nothing)), nothing)),
		"(a,@b)":  pair(a, pair(pair(sym("unquote-splicing"), pair(b, nothing)), nothing)),
		"('a b)":  pair(pair(sym("quote"), pair(a, nothing)), pair(b, nothing)),
		"''(a)":   pair(sym("quote"), pair(pair(sym("quote"), pair(pair(a, nothing), nothing)), nothing)),
		"'(1 ,x)": pair(sym("quote"), pair(pair(datum.Int(1), pair(pair(sym("unquote"), pair(sym("x"), nothing)), nothing)), nothing)),
	} {
		check(t, s, 0, read(want, len(s)))
		// What stands behind it is not looked at, and what stands ahead is gone over.
		for _, behind := range []string{" ", "(", ")", "]", " .", "'", " b", " \"", ";", "\n#|", " ||", " \xff"} {
			check(t, s+behind, 0, read(want, len(s)))
			check(t, "x ; (\n#|(|#"+s+behind, 1, read(want, len(s)+11))
		}
	}
}

// What comes of a token at a place: a datum is whole; something new is open; the
// same as ahead of it is the innermost still; what is around that is.
// Each row tells that of the tokens of TestP5_1Places, one by one; F: ErrForm.
func TestP5_1Places(t *testing.T) {
	tokens := append(opening(), "a", ".", ")", "]")
	for _, c := range []struct {
		ahead       string
		innermost   int
		come, where string
	}{
		{"", 0, "nnnnnnndFFF", "nothing is open"},
		{"(", 0, "nnnnnnnsFdF", "a list without data"},
		{"(a", 0, "nnnnnnnssdF", "ahead of a dot"},
		{"(a b", 0, "nnnnnnnssdF", "ahead of a dot"},
		{"(a .", 0, "nnnnnnnsFFF", "behind a dot"},
		{"(a . b", 0, "FFFFFFFFFdF", "behind the datum behind a dot"},
		{"(a . (b)", 0, "FFFFFFFFFdF", "behind the datum behind a dot"},
		{"(a . 'b", 0, "FFFFFFFFFdF", "behind the datum behind a dot"},
		{"[", 0, "nnnnnnnsFFd", "a square list without data"},
		{"[a", 0, "nnnnnnnssFd", "ahead of a dot"},
		{"[(a)", 0, "nnnnnnnssFd", "ahead of a dot"},
		{"[a .", 0, "nnnnnnnsFFF", "behind a dot"},
		{"[a . b", 0, "FFFFFFFFFFd", "behind the datum behind a dot"},
		{"[a . #(b)", 0, "FFFFFFFFFFd", "behind the datum behind a dot"},
		{"#(", 0, "nnnnnnnsFdF", "a vector without data"},
		{"#(a", 0, "nnnnnnnsFdF", "a vector"},
		{"#(a (b . c)", 0, "nnnnnnnsFdF", "a vector"},
		{"'", 0, "nnnnnnndFFF", "behind a mark"},
		{"`", 0, "nnnnnnndFFF", "behind a mark"},
		{",", 0, "nnnnnnndFFF", "behind a mark"},
		{",@", 0, "nnnnnnndFFF", "behind a mark"},
		{"'`", 1, "nnnnnnndFFF", "behind two marks"},
		{"(a '", 3, "nnnnnnnoFFF", "behind a mark in a list"},
		{"[a . ,", 5, "nnnnnnnoFFF", "behind a mark behind a dot"},
		{"#(,@", 2, "nnnnnnnoFFF", "behind a mark in a vector"},
		{"((", 1, "nnnnnnnsFoF", "a list in a list"},
		{"((a", 1, "nnnnnnnssoF", "a list in a list"},
		{"(a . [b", 5, "nnnnnnnssFo", "a list behind a dot"},
		{"#(#(", 2, "nnnnnnnsFoF", "a vector in a vector"},
		{"(a .(b . c", 4, "FFFFFFFFFoF", "a list behind a dot"},
		{"'(", 1, "nnnnnnnsFdF", "a list behind a mark"},
		{"'[a . b", 1, "FFFFFFFFFFd", "a list behind a mark"},
	} {
		for i, token := range tokens {
			s := c.ahead + " " + token
			place := len(c.ahead) + 1
			want := map[byte]answer{
				'F': wrong(place, api.ErrForm), 'n': wrong(place, api.ErrEnd), 's': wrong(c.innermost, api.ErrEnd), 'o': wrong(0, api.ErrEnd),
			}
			if c.come[i] == 'd' {
				d, next, _, e := parse.One(s+" a", 0)
				if e != api.OK || next != len(s) {
					t.Fatalf("One(%q, 0): %d, %d (%s)", s, next, e, c.where)
				}
				want['d'] = read(d, len(s))
			}
			check(t, s, 0, want[c.come[i]])
			check(t, s+" ;", 0, want[c.come[i]])
			// What is wrong at the token is told whatever is behind it.
			if c.come[i] == 'F' {
				check(t, s+" \xff", 0, want['F'])
				check(t, s+"((", 0, want['F'])
			}
		}
	}
}

func TestP5_1Examples(t *testing.T) {
	for s, place := range map[string]int{"(a . )": 5, "(. a)": 1, "(a . b c)": 7, "(a]": 2, "[a)": 2, "#(a]": 3, ")": 0, "]": 0, ".": 0, "(')": 2, "#(.": 2, "#(a . b)": 4, "'.": 1, "(a . . b)": 5, "(a . b . c)": 7} {
		check(t, s, 0, wrong(place, api.ErrForm))
	}
	check(t, "(a (b", 0, wrong(3, api.ErrEnd))
	check(t, "", 0, wrong(0, api.ErrNone))
}

func TestP5_1End(t *testing.T) {
	for s, place := range map[string]int{
		"(": 0, "[": 0, "#(": 0, "'": 0, "`": 0, ",": 0, ",@": 0, " \n(": 2, "(a": 0, "(a .": 0, "(a . b": 0, "#(a b": 0, "(()": 0, "(#()": 0, "('a": 0, "(a . (b)": 0, "(a . 'b": 0,
		"(a '": 3, "''": 1, "'(": 1, "'(a": 1, "(a #(b": 3, "(a [b] #(c": 7, "(a (b) [c '#(d) e": 7, "(a . (": 5, "#(#(": 2, "(a (b (c) d": 3, "( ;)": 0, "(#|)|#": 0, "(a |)| \")\" #\\)": 0,
	} {
		for _, behind := range []string{"", " ", "\n;", " #| ( |# ", ";("} {
			check(t, s+behind, 0, wrong(place, api.ErrEnd))
		}
	}
	for _, s := range []string{"", " ", "\n\n", ";", "; (a)", "#| a |#", " #| #| |# |# ; b"} {
		check(t, s, 0, wrong(len(s), api.ErrNone))
		check(t, s, len(s), wrong(len(s), api.ErrNone))
		check(t, "a "+s, 1, wrong(len(s)+2, api.ErrNone))
		check(t, "(a) "+s, 3, wrong(len(s)+4, api.ErrNone))
	}
}

// lexErrors are tokens that are none, and what lex says of each of them.
func lexErrors() map[string]answer {
	return map[string]answer{
		"\"a": wrong(0, api.ErrEnd), "|a": wrong(0, api.ErrEnd), "#| #| |#": wrong(0, api.ErrEnd), "#\\": wrong(0, api.ErrEnd), "\"\\": wrong(0, api.ErrEnd),
		"\"a\\q\"": wrong(2, api.ErrForm), "|\\x;|": wrong(1, api.ErrForm), "\xff": wrong(0, api.ErrForm), "#": wrong(0, api.ErrForm), "#x1": wrong(0, api.ErrForm), "||": wrong(0, api.ErrForm), "#\\ab": wrong(0, api.ErrForm),
		strings.Repeat("a", 63): wrong(0, api.ErrBig), "\"" + strings.Repeat("a", 63) + "\"": wrong(0, api.ErrBig), strings.Repeat("9", 500): wrong(0, api.ErrBig),
	}
}

// Where there is no token, lex's error goes ahead of all that would be said of
// one, and of what is open.
func TestP5_1LexErrors(t *testing.T) {
	aheads := []string{"", " ", "(", "(a", "(a .", "(a . b", "[", "[a . b", "#(", "#(a", "'", "`", ",", ",@", "(a '", "((", "#" + "(" + strings.Repeat("a ", 62), strings.Repeat("(", 64), strings.Repeat("'", 64)}
	for s, last := range lexErrors() {
		for _, ahead := range aheads {
			check(t, ahead+" "+s, 0, wrong(len(ahead)+1+last.place, last.err))
		}
		check(t, "a "+s, 0, read(sym("a"), 1))
		check(t, "a "+s, 1, wrong(2+last.place, last.err))
		check(t, ") "+s, 0, wrong(0, api.ErrForm))
		check(t, "(a] "+s, 0, wrong(2, api.ErrForm))
	}
}

func TestP5_1Vectors(t *testing.T) {
	for _, item := range []string{"a", "()", "[b . c]", "#()", "'a", ",@,a", "\"\"", "#(1 2)"} {
		for _, n := range []int{0, 1, 61, 62, 63, 64, 200} {
			s := "#(" + strings.Repeat(item+" ", n) + ")"
			if n <= 62 {
				d, _, _, _ := parse.One(item, 0)
				var l []api.Datum
				for range n {
					l = append(l, d)
				}
				check(t, s, 0, read(vec(l...), len(s)))
				check(t, " "+s+"]", 0, read(vec(l...), len(s)+1))
				continue
			}
			place := 2 + 62*(len(item)+1)
			check(t, s, 0, wrong(place, api.ErrBig))
			check(t, "'("+s, 0, wrong(place+2, api.ErrBig))
		}
	}
	full := "#(" + strings.Repeat("a ", 62)
	for _, token := range append(opening(), "a", "5", "\"\"") {
		check(t, full+token, 0, wrong(len(full), api.ErrBig))
	}
	check(t, full, 0, wrong(0, api.ErrEnd))
	check(t, full+".", 0, wrong(len(full), api.ErrForm))
	check(t, full+"]", 0, wrong(len(full), api.ErrForm))
	// In something else that stands in it there is room, and a list has no end.
	check(t, "#("+strings.Repeat("a ", 61)+"(a b) c", 0, wrong(130, api.ErrBig))
	for _, n := range []int{62, 63, 500} {
		s := "(" + strings.Repeat("a ", n) + ")"
		d := api.Datum{}
		for range n {
			d = pair(sym("a"), d)
		}
		check(t, s, 0, read(d, len(s)))
	}
}

// closing is what closes what the opening tokens l open.
func closing(l []string) string {
	s := ""
	for _, token := range l {
		switch token {
		case "(", "#(":
			s = ")" + s
		case "[":
			s = "]" + s
		}
	}
	return s
}

func TestP5_1Depth(t *testing.T) {
	m := newMaker()
	sorts := opening()
	for i := range 100 {
		var l []string
		for range 65 {
			if i < len(sorts) {
				l = append(l, sorts[i])
			} else {
				l = append(l, m.one(sorts...))
			}
		}
		deep := strings.Join(l[:64], " ")
		whole := deep + " a" + closing(l[:64])
		d, next, _, e := parse.One(whole, 0)
		if e != api.OK || next != len(whole) || datum.Depth(d) != 64 || !datum.May(d) {
			t.Fatalf("One(%q, 0): %d, %d", whole, next, e)
		}
		check(t, whole, 0, read(d, next))
		check(t, deep, 0, wrong(len(deep)-len(l[63]), api.ErrEnd))
		for _, token := range sorts {
			check(t, deep+" "+token, 0, wrong(len(deep)+1, api.ErrDeep))
			check(t, whole+" "+deep+" "+token, len(whole), wrong(len(whole)+len(deep)+2, api.ErrDeep))
		}
		check(t, strings.Join(l, " "), 0, wrong(len(deep)+1, api.ErrDeep))
	}
	// What has ended is not open: ever so many lists, and marks, in a list.
	check(t, strings.Repeat("(", 63)+"()[]#()'a,@b((", 0, wrong(76, api.ErrDeep))
	// What stands behind dots is no deeper for it, but open all the same.
	check(t, strings.Repeat("(a . ", 64)+"(", 0, wrong(320, api.ErrDeep))
	s := strings.Repeat("(a . ", 64) + "b" + strings.Repeat(")", 64)
	d := sym("b")
	for range 64 {
		d = pair(sym("a"), d)
	}
	check(t, s, 0, read(d, len(s)))
}

func TestP5_1SeveralErrors(t *testing.T) {
	open := strings.Repeat("(", 63)
	full := open + "#(" + strings.Repeat("a ", 62)
	for _, token := range opening() {
		check(t, open+"(a . b "+token, 0, wrong(70, api.ErrForm))
		check(t, open+"[a . b "+token, 0, wrong(70, api.ErrForm))
		check(t, full+token, 0, wrong(len(full), api.ErrBig))
		check(t, open+"(a . "+token, 0, wrong(68, api.ErrDeep))
		check(t, open+"' "+token, 0, wrong(65, api.ErrDeep))
	}
	check(t, full+"a", 0, wrong(len(full), api.ErrBig))
	check(t, full+".", 0, wrong(len(full), api.ErrForm))
	check(t, full+"]", 0, wrong(len(full), api.ErrForm))
	check(t, open+"')", 0, wrong(64, api.ErrForm))
	check(t, open+"(a . b c", 0, wrong(70, api.ErrForm))
	check(t, open+"(a . b . ", 0, wrong(70, api.ErrForm))
	// The first token at which something is wrong.
	check(t, "(a ] )", 0, wrong(3, api.ErrForm))
	check(t, "(a . ) (. ", 0, wrong(5, api.ErrForm))
	check(t, "#("+strings.Repeat("a ", 63)+"]", 0, wrong(126, api.ErrBig))
	check(t, strings.Repeat("[", 65)+")", 0, wrong(64, api.ErrDeep))
}

func TestP5_1Limits(t *testing.T) {
	blank := strings.Repeat(" ", 4094)
	check(t, blank+"()", 0, read(api.Datum{}, 4096))
	check(t, blank+"()", 4095, wrong(4095, api.ErrForm))
	check(t, blank+"()", 4096, wrong(4096, api.ErrNone))
	for _, s := range []string{blank + "abc", "abc" + blank, strings.Repeat("(", 4097), strings.Repeat("\xff", 5000)} {
		for _, at := range []int{math.MinInt, -1, 0, 1, 4095, 4096, 4097, 4098, math.MaxInt} {
			check(t, s, at, wrong(0, api.ErrLong))
		}
	}
	for _, s := range []string{"", "a", "(a b)", "(", ")", "\"a"} {
		for _, at := range []int{math.MinInt, -4097, -2, -1, len(s) + 1, len(s) + 2, 4096, 4097, math.MaxInt} {
			check(t, s, at, wrong(0, api.ErrArg))
		}
		check(t, s, len(s), wrong(len(s), api.ErrNone))
	}
}

// A place within something is a place like any other.
func TestP5_1Within(t *testing.T) {
	s := " (ab '[c . #t]) \"(d)\""
	t1 := api.Datum{Kind: api.DatTrue}
	list := pair(sym("c"), t1)
	quoted := pair(sym("quote"), pair(list, api.Datum{}))
	whole := read(pair(sym("ab"), pair(quoted, api.Datum{})), 15)
	for at, want := range []answer{
		whole, whole, read(sym("ab"), 4), read(sym("b"), 4), read(quoted, 14), read(quoted, 14), read(list, 14), read(sym("c"), 8), wrong(9, api.ErrForm), wrong(9, api.ErrForm),
		read(t1, 13), read(t1, 13), read(sym("t"), 13), wrong(13, api.ErrForm), wrong(14, api.ErrForm), read(datum.Str("(d)"), 21), read(datum.Str("(d)"), 21), read(pair(sym("d"), api.Datum{}), 20), read(sym("d"), 19),
		wrong(19, api.ErrForm), wrong(20, api.ErrEnd), wrong(21, api.ErrNone),
	} {
		check(t, s, at, want)
	}
}

// All short rows of tokens, and wild texts, at all places.
func TestP5_1Model(t *testing.T) {
	for s := range rows(5, append(opening(), ")", "]", ".", "a")...) {
		check(t, s, 0, modelOne(s, 0))
	}
	for s := range rows(7, "(", ")", "'", ".", "a") {
		check(t, s, 0, modelOne(s, 0))
	}
	for s := range wildTexts(3000) {
		for at := range len(s) + 1 {
			check(t, s, at, modelOne(s, at))
		}
	}
}
