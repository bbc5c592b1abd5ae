package lex_test

import (
	"math"
	"strings"
	"testing"

	"moraine/api"
)

const delimiters = "\t\n\f\r ()[]\";'`,"

// badBytes are bytes that are no UTF-8.
func badBytes() []string {
	return []string{"\x80", "\xbf", "\xc3", "\xff", "\xfe", "\xc0\x80", "\xc1\xbf", "\xe2\x82", "\xed\xa0\x80", "\xed\xbf\xbf", "\xf0\x9f\x98", "\xf4\x90\x80\x80", "\xf8\x88\x80\x80\x80"}
}

func sym(at, end int, s string) answer {
	return tokenOf(at, end, api.Datum{Kind: api.DatSym, T: s})
}

func str(at, end int, s string) answer {
	return tokenOf(at, end, api.Datum{Kind: api.DatStr, T: s})
}

func char(at, end int, c rune) answer {
	return tokenOf(at, end, api.Datum{Kind: api.DatChar, C: c})
}

// moved is the token a in a text that has so many bytes ahead of it.
func moved(a answer, by int) answer {
	a.token.At += by
	a.token.End += by
	return a
}

func TestP4_1Marks(t *testing.T) {
	for _, c := range []struct {
		s      string
		kind   int
		square bool
	}{
		{"(", api.TokOpen, false}, {"[", api.TokOpen, true}, {")", api.TokClose, false}, {"]", api.TokClose, true}, {"#(", api.TokVec, false},
		{"'", api.TokQuote, false}, {"`", api.TokQuasi, false}, {",@", api.TokSplice, false}, {",", api.TokOut, false}, {".", api.TokDot, false},
	} {
		want := bareToken(c.kind, 0, len(c.s))
		want.token.Square = c.square
		for _, behind := range []string{"", " ", "(", ")", "]", "\"", ";", "'", "\n@", ",@", "|a|"} {
			check(t, c.s+behind, 0, want)
			check(t, " ;,\n"+c.s+behind, 0, moved(want, 4))
		}
	}
	check(t, ",a@", 0, bareToken(api.TokOut, 0, 1))
	check(t, ", @", 0, bareToken(api.TokOut, 0, 1))
	check(t, ",@@", 0, bareToken(api.TokSplice, 0, 2))
	check(t, "@", 0, sym(0, 1, "@"))
	// What is no mark to the end is a symbol.
	for _, s := range []string{"..", "...", ".5", ".a", "5.", ".#t", "a.b", "{", "}", "\\", "a\\b", "!", "a#(", "a#t", "a#\\"} {
		end := len(strings.TrimRight(s, "("))
		check(t, s, 0, sym(0, end, s[:end]))
	}
}

func TestP4_1Blanks(t *testing.T) {
	for c := range 256 {
		b := string([]byte{byte(c)})
		s := b + b + "a" + b + "b"
		if strings.Contains("\t\n\f\r ", b) {
			check(t, s, 0, sym(2, 3, "a"))
			check(t, s, 3, sym(4, 5, "b"))
			check(t, b, 0, bareToken(api.TokEnd, 1, 1))
		}
	}
	// These look like blanks, and are chars of a symbol.
	for _, b := range []string{"\v", "\x00", "\x1c", "\x7f", "\u0085", "\u00a0", "\u2028", "\u3000", "\ufeff"} {
		check(t, " "+b+"a"+b, 0, sym(1, 2+2*len(b), b+"a"+b))
	}
}

func TestP4_1Comments(t *testing.T) {
	for _, c := range []string{
		";\n", ";a\n", "; a (\" #| |\\\n", ";\r\n", ";;\n;\n", ";\r;\n", "; \xff\xc3\n", ";\n\n ;\x00\n",
		"#||#", "#|a|#", "#| a\nb |#", "#|\"|#", "#|;|#", "#|\xff|#", "#|||#", "#|#|#||#|#|#", "#| a #| b |# c #| d |# |#", "#|\\|#", "#|#\\|#",
		"#|##|x|#|#", "#||#;|#\n", "#||##||#", ";#|\n", strings.Repeat("#|", 500) + strings.Repeat("|#", 500), strings.Repeat("#||#", 500),
	} {
		check(t, c, 0, bareToken(api.TokEnd, len(c), len(c)))
		check(t, c+"a", 0, sym(len(c), len(c)+1, "a"))
		check(t, c+" "+c+"a", 0, sym(2*len(c)+1, 2*len(c)+2, "a"))
		check(t, "b "+c+"a", 1, sym(len(c)+2, len(c)+3, "a"))
	}
	// Up to the text's end; CR is not a line's.
	for _, c := range []string{";", ";a", "; a\r(b", ";\v\f\u0085\u2028a", ";\xff", "a ;b", ";\n;"} {
		at := strings.IndexByte(c, ';')
		check(t, c, at, bareToken(api.TokEnd, len(c), len(c)))
	}
	// A |# that belongs to none.
	check(t, "#||#|#", 0, fault(4, api.ErrEnd))
	check(t, "#||#|#|", 0, sym(4, 7, "#"))
	// A # within a token begins no comment.
	check(t, "a#|b|#", 0, sym(0, 2, "a#"))
	check(t, "##|b|#", 0, fault(0, api.ErrForm))
	check(t, "a;b", 0, sym(0, 1, "a"))
}

func TestP4_1OpenComments(t *testing.T) {
	for _, c := range []string{"#|", "#|a", "#||", "#|#", "#|#|#", "#|#|#|#|#", "#|#||#", "#|#|", "#|##|x|##|#", "#| #| |#", "#| \n;|", "#| \"", "#|\xff", "#|||\n#", strings.Repeat("#|", 2000), strings.Repeat("#|", 1001) + strings.Repeat("|#", 1000)} {
		for _, ahead := range []string{"", " ", "; \n", "#|x|#", "\n#|#||#|# "} {
			check(t, ahead+c, 0, fault(len(ahead), api.ErrEnd))
		}
		check(t, "a "+c, 1, fault(2, api.ErrEnd))
		check(t, "a"+" "+c, 0, sym(0, 1, "a"))
	}
}

func TestP4_1End(t *testing.T) {
	for _, s := range []string{"", " ", "\n\n", "a", "a ", "(a) ;x", ";", "\"a"} {
		check(t, s, len(s), bareToken(api.TokEnd, len(s), len(s)))
	}
	check(t, "a  ", 1, bareToken(api.TokEnd, 3, 3))
	check(t, "a #||# ;", 1, bareToken(api.TokEnd, 8, 8))
}

func TestP4_1Limits(t *testing.T) {
	blank := strings.Repeat(" ", 4094)
	check(t, blank+"ab", 0, sym(4094, 4096, "ab"))
	check(t, blank+"  ", 0, bareToken(api.TokEnd, 4096, 4096))
	check(t, blank+"ab", 4096, bareToken(api.TokEnd, 4096, 4096))
	check(t, blank+"ab", 4097, fault(0, api.ErrArg))
	check(t, ";"+strings.Repeat("€", 1365), 0, bareToken(api.TokEnd, 4096, 4096))
	for _, s := range []string{blank + "abc", "abc" + blank, strings.Repeat("\xff", 4097), strings.Repeat("#|", 3000), strings.Repeat("a", 100000)} {
		for _, at := range []int{math.MinInt, -1, 0, 1, 4095, 4096, 4097, 4098, math.MaxInt} {
			check(t, s, at, fault(0, api.ErrLong))
		}
	}
}

func TestP4_1Places(t *testing.T) {
	for _, s := range []string{"", "a", "(a b)", "\"a", "#|", "\xff", "ä"} {
		for _, at := range []int{math.MinInt, -4097, -2, -1, len(s) + 1, len(s) + 2, 4096, 4097, math.MaxInt} {
			check(t, s, at, fault(0, api.ErrArg))
		}
		check(t, s, len(s), bareToken(api.TokEnd, len(s), len(s)))
	}
	s := " (a  . #t)"
	for at, want := range []answer{
		bareToken(api.TokOpen, 1, 2), bareToken(api.TokOpen, 1, 2), sym(2, 3, "a"), bareToken(api.TokDot, 5, 6), bareToken(api.TokDot, 5, 6), bareToken(api.TokDot, 5, 6),
		tokenOf(7, 9, api.Datum{Kind: api.DatTrue}), tokenOf(7, 9, api.Datum{Kind: api.DatTrue}), sym(8, 9, "t"), bareToken(api.TokClose, 9, 10), bareToken(api.TokEnd, 10, 10),
	} {
		check(t, s, at, want)
	}
}

// A place within something is a place like any other: what begins there is what
// the bytes from there on are.
func TestP4_1Within(t *testing.T) {
	check(t, "abc def", 1, sym(1, 3, "bc"))
	check(t, "-57", 1, tokenOf(1, 3, api.Datum{Kind: api.DatInt, N: api.Num{Mag: []uint32{57}}}))
	check(t, "#(", 1, bareToken(api.TokOpen, 1, 2))
	check(t, ",@ a", 1, sym(1, 2, "@"))
	check(t, "#\\a", 1, sym(1, 3, "\\a"))
	check(t, "#\\(", 2, bareToken(api.TokOpen, 2, 3))
	check(t, "\"a b\"", 1, sym(1, 2, "a"))
	check(t, "\"a b\"", 4, fault(4, api.ErrEnd))
	check(t, "|a|", 2, fault(2, api.ErrEnd))
	check(t, "; a b", 1, sym(2, 3, "a"))
	check(t, "#| a |#", 3, sym(3, 4, "a"))
	check(t, "#|a|#", 1, sym(1, 4, "a"))
	check(t, "#| #| |# |#", 2, fault(9, api.ErrEnd))
	for at := 1; at < 4; at++ {
		check(t, "😀a", at, fault(at, api.ErrForm))
	}
	check(t, "😀a", 4, sym(4, 5, "a"))
	check(t, "\"ä\" b", 2, fault(2, api.ErrForm))
	check(t, ";ä\nb", 2, fault(2, api.ErrForm))
}
