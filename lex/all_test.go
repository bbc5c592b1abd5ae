package lex_test

import (
	"slices"
	"strings"
	"testing"
	"unsafe"

	"moraine/api"
	"moraine/lex"
)

// whole are texts that are one token each, told by the model.
func whole(t *testing.T) []string {
	l := []string{
		"(", "[", ")", "]", "#(", "'", "`", ",@", ".", "#t", "#true", "#f", "#false", "5", "-5", "+5", "0", "-0", "a", "-", "...", "ä€😀", "a#b", "\v",
		"#\\a", "#\\|", "#\\#", "#\\(", "#\\ ", "#\\\n", "#\\;", "#\\\"", "#\\\\", "#\\x", "#\\x41", "#\\space", "#\\ä", "\"\"", "\"a\"", "\"\\\"\"", "\"; #|\"", "|a|", "| |", "|\\||", "|\"|",
	}
	for _, s := range l {
		if want := modelNext(s, 0); want.err != api.OK || want.token.End != len(s) {
			t.Fatalf("%q is no token: %+v", s, want)
		}
	}
	return l
}

// Whatever byte stands behind a token of whatever kind: it ends there just at a
// delimiter (and at |, if no mark is ahead of it), or where its own end is.
func TestP4_1Delimiters(t *testing.T) {
	for _, s := range append(whole(t), ",") {
		alone := modelNext(s, 0)
		last := s[len(s)-1]
		kind := alone.token.Kind
		closed := kind != api.TokDatum && kind != api.TokDot || s[0] == '"' || s[0] == '|' && last == '|'
		isChar := strings.HasPrefix(s, "#\\")
		check(t, s, 0, alone)
		for c := range 256 {
			behind := string([]byte{byte(c)})
			ends := closed || strings.Contains(delimiters, behind) || behind == "|" && !isChar
			if s == "," && behind == "@" {
				ends = false
			}
			token, _, e := lex.Next(s+behind, 0)
			if ended := e == api.OK && sameToken(token, alone.token); ended != ends {
				t.Fatalf("Next(%q, 0): %+v, %d", s+behind, token, e)
			}
			check(t, s+behind, 0, modelNext(s+behind, 0))
		}
	}
}

// All places of short texts, and of wild ones.
func TestP4_1Model(t *testing.T) {
	for s := range shortTexts(3) {
		for at := range len(s) + 1 {
			check(t, s, at, modelNext(s, at))
		}
	}
	for s := range wildTexts(3000, 8) {
		for at := range len(s) + 1 {
			check(t, s, at, modelNext(s, at))
		}
	}
}

// checkAll fails, unless All answers what it should.
func checkAll(t *testing.T, s string, want []api.Token, last answer) {
	t.Helper()
	l, place, e := lex.All(s)
	if !slices.EqualFunc(l, want, sameToken) || place != last.place || e != last.err {
		t.Fatalf("All(%q): %+v, %d, %d; not %+v, %+v", s, l, place, e, want, last)
	}
}

// tokensOf are the tokens of answers.
func tokensOf(l ...answer) []api.Token {
	var out []api.Token
	for _, a := range l {
		out = append(out, a.token)
	}
	return out
}

func TestP4_2All(t *testing.T) {
	for _, s := range []string{"", " ", "\n\t\r\f ", ";", "; a", "; a\n", "#||#", " #| a |# ; b"} {
		checkAll(t, s, nil, answer{})
	}
	seven := tokenOf(5, 6, api.Datum{Kind: api.DatInt, N: api.Num{Mag: []uint32{7}}})
	checkAll(t, "(a . 7) ;x", tokensOf(bareToken(1, 0, 1), sym(1, 2, "a"), bareToken(8, 3, 4), seven, bareToken(2, 6, 7)), answer{})
	checkAll(t, "#\\a #\\( #\\space #\\x41", tokensOf(char(0, 3, 'a'), char(4, 7, '('), char(8, 15, ' '), char(16, 21, 'A')), answer{})
	checkAll(t, "a'b`c,d,@e\"f\"g|h|i", tokensOf(sym(0, 1, "a"), bareToken(4, 1, 2), sym(2, 3, "b"), bareToken(5, 3, 4), sym(4, 5, "c"), bareToken(6, 5, 6), sym(6, 7, "d"),
		bareToken(7, 7, 9), sym(9, 10, "e"), str(10, 13, "f"), sym(13, 14, "g"), sym(14, 17, "h"), sym(17, 18, "i")), answer{})
	checkAll(t, "#t#f", nil, fault(0, api.ErrForm))
	checkAll(t, strings.Repeat("a ", 2048), tokensOf(repeated(2048)...), answer{})
}

// repeated are so many tokens a, parted by a byte each.
func repeated(n int) []answer {
	var l []answer
	for i := range n {
		l = append(l, sym(2*i, 2*i+1, "a"))
	}
	return l
}

func TestP4_2Errors(t *testing.T) {
	for s, last := range map[string]answer{
		"\"a": fault(0, api.ErrEnd), "\"\\q\"": fault(1, api.ErrForm), "\"\\": fault(0, api.ErrEnd), "#\\ab": fault(0, api.ErrForm), "#x1": fault(0, api.ErrForm), "||": fault(0, api.ErrForm),
		"|a": fault(0, api.ErrEnd), "#|": fault(0, api.ErrEnd), "#| #| |#": fault(0, api.ErrEnd), "\xff": fault(0, api.ErrForm), "#": fault(0, api.ErrForm), "#\\": fault(0, api.ErrEnd),
		strings.Repeat("a", 63): fault(0, api.ErrBig), strings.Repeat("9", 500): fault(0, api.ErrBig),
	} {
		for n := range 4 {
			text := strings.Repeat("a ", n) + s
			want := fault(2*n+last.place, last.err)
			checkAll(t, text, tokensOf(repeated(n)...), want)
			// What stands behind an error is not looked at.
			if last.err != api.ErrEnd {
				checkAll(t, text+"\n\"", tokensOf(repeated(n)...), want)
			}
		}
	}
	for _, s := range []string{strings.Repeat("a ", 2048) + "a", strings.Repeat(" ", 4097), strings.Repeat("\"", 4097)} {
		checkAll(t, s, nil, fault(0, api.ErrLong))
	}
}

func TestP4_2Model(t *testing.T) {
	for s := range shortTexts(4) {
		want, last := modelAll(s)
		checkAll(t, s, want, last)
	}
	for s := range wildTexts(20000, 20) {
		want, last := modelAll(s)
		checkAll(t, s, want, last)
	}
}

// manyTexts are texts for what follows from the promises.
func manyTexts(yield func(string) bool) {
	for s := range shortTexts(3) {
		if !yield(s) {
			return
		}
	}
	for s := range wildTexts(5000, 15) {
		if !yield(s) {
			return
		}
	}
}

func TestP4_3(t *testing.T) {
	for s := range manyTexts {
		l, place, e := lex.All(s)
		end := 0
		for _, token := range l {
			if token.At < end || token.End <= token.At || token.End > len(s) {
				t.Fatalf("All(%q): %+v", s, l)
			}
			checkGap(t, s, end, token.At)
			check(t, s, token.At, answer{token: token})
			check(t, s, end, answer{token: token})
			end = token.End
		}
		if e == api.OK {
			checkGap(t, s, end, len(s))
		} else if place < end || place >= len(s) {
			t.Fatalf("All(%q): %+v, %d, %d", s, l, place, e)
		}
	}
}

// checkGap fails, unless there are just blanks and comments from begin to end.
func checkGap(t *testing.T, s string, begin, end int) {
	t.Helper()
	for at := begin; at < end; {
		size := len(gapPattern.FindString(s[at:end]))
		if strings.HasPrefix(s[at:end], "#|") {
			size = modelComment(s[at:end])
		}
		if size <= 0 {
			t.Fatalf("from %d to %d in %q stands something", begin, end, s)
		}
		at += size
	}
}

func TestP4_4Parts(t *testing.T) {
	var last string
	for s := range manyTexts {
		one, other := last, s
		last = s
		l, place, e := lex.All(one)
		if e == api.ErrEnd {
			continue
		}
		if e == api.OK {
			by := len(one) + 1
			more, at, err := lex.All(other)
			for _, token := range more {
				token.At += by
				token.End += by
				l = append(l, token)
			}
			if err != api.OK {
				place, e = by+at, err
			}
		}
		checkAll(t, one+"\n"+other, l, fault(place, e))
	}
}

func TestP4_5Alone(t *testing.T) {
	for _, s := range whole(t) {
		checkAlone(t, " "+s)
		checkAlone(t, "a "+s+" b")
	}
	for s := range manyTexts {
		checkAlone(t, s)
	}
}

// checkAlone fails, unless each token of s is the same one by itself.
func checkAlone(t *testing.T, s string) {
	t.Helper()
	l, _, _ := lex.All(s)
	for _, token := range l {
		alone := token
		alone.At, alone.End = 0, token.End-token.At
		checkAll(t, s[token.At:token.End], []api.Token{alone}, answer{})
	}
}

// shares tells whether a has memory of b.
func shares(a, b string) bool {
	if a == "" || b == "" {
		return false
	}
	x, y := uintptr(unsafe.Pointer(unsafe.StringData(a))), uintptr(unsafe.Pointer(unsafe.StringData(b)))
	return x < y+uintptr(len(b)) && y < x+uintptr(len(a))
}

// What is answered is new memory: none of the text's, none of another token's,
// none of another answer's.
func TestP4_2NewMemory(t *testing.T) {
	s := strings.Clone("a a abc |a| \"a\" \"abc\" |x y| " + strings.Repeat("b", 62) + " 5 5 4294967296 -4294967296")
	first, _, _ := lex.All(s)
	second, _, _ := lex.All(s)
	var texts []string
	for _, token := range append(slices.Clone(first), second...) {
		if shares(token.D.T, s) {
			t.Errorf("%+v has memory of the text", token)
		}
		for _, other := range texts {
			if shares(token.D.T, other) {
				t.Errorf("%+v has memory of another one", token)
			}
		}
		texts = append(texts, token.D.T)
	}
	for i := range first {
		for j := range first[i].D.N.Mag {
			first[i].D.N.Mag[j] = 77
		}
		first[i].D.T = "changed"
	}
	want, last := modelAll(s)
	if !slices.EqualFunc(second, want, sameToken) {
		t.Errorf("All(%q) changed with another answer: %+v", s, second)
	}
	checkAll(t, s, want, last)
}
