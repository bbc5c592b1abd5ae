package lex_test

import (
	"math/big"
	"strconv"
	"strings"
	"testing"

	"moraine/api"
)

// escapes are the letters that go behind a backslash in strings, and the char
// that each of them stands for; in symbols | is one too.
func escapes(mark string) map[string]string {
	m := map[string]string{"\\": "\\", "\"": "\"", "n": "\n", "t": "\t", "r": "\r"}
	if mark == "|" {
		m["|"] = "|"
	}
	return m
}

// marked are the two kinds that are marked at both ends.
func marked(t *testing.T, try func(mark string, is func(at, end int, s string) answer)) {
	t.Helper()
	try("\"", str)
	try("|", sym)
}

func TestP4_1Strings(t *testing.T) {
	check(t, `""`, 0, str(0, 2, ""))
	check(t, ` "" `, 0, str(1, 3, ""))
	check(t, `"a""b"`, 0, str(0, 3, "a"))
	check(t, `"a""b"`, 3, str(3, 6, "b"))
	check(t, `"a|b"c`, 0, str(0, 5, "a|b"))
	check(t, `|a"b|c`, 0, sym(0, 5, `a"b`))
	check(t, `|a||b|`, 0, sym(0, 3, "a"))
	check(t, `a|b c|`, 0, sym(0, 1, "a"))
	check(t, `a|b c|d`, 1, sym(1, 6, "b c"))
	check(t, `"a\n\x41;"`, 0, str(0, 10, "a\nA"))
	marked(t, func(mark string, is func(at, end int, s string) answer) {
		// What is a token elsewhere is chars here.
		for _, text := range []string{"a", " ", "12", ".", "#t", "; a", "#", "(a . [b])", "'`,,@", "a\nb", "\t\r\f\v\x00\x7f", "ä€😀", "\uFFFD", "\uFEFF"} {
			check(t, mark+text+mark, 0, is(0, len(text)+2, text))
			check(t, " "+mark+text+mark+"\xff", 0, is(1, len(text)+3, text))
		}
	})
}

func TestP4_1Escapes(t *testing.T) {
	marked(t, func(mark string, is func(at, end int, s string) answer) {
		for c := range 256 {
			letter := string([]byte{byte(c)})
			s := mark + "a\\" + letter + "b" + mark + " "
			if char, ok := escapes(mark)[letter]; ok {
				check(t, s, 0, is(0, 6, "a"+char+"b"))
				check(t, mark+"\\"+letter+mark, 0, is(0, 4, char))
				check(t, mark+"\\\\\\"+letter+mark, 0, is(0, 6, "\\"+char))
			} else {
				check(t, s, 0, fault(2, api.ErrForm))
				check(t, " \n"+s, 0, fault(4, api.ErrForm))
				check(t, mark+"\\\\\\"+letter+mark, 0, fault(3, api.ErrForm))
			}
		}
		check(t, mark+"\\ä"+mark, 0, fault(1, api.ErrForm))
	})
}

func TestP4_1EscapesByNumber(t *testing.T) {
	marked(t, func(mark string, is func(at, end int, s string) answer) {
		for n := range 0x110100 {
			hex := strconv.FormatInt(int64(n), 16)
			if n%2 == 1 {
				hex = strings.ToUpper(hex)
			}
			if n%3 == 1 {
				hex = strings.Repeat("0", 6-len(hex)) + hex
			}
			s := mark + "\\x" + hex + ";" + mark
			if isChar(int64(n)) {
				check(t, s, 0, is(0, len(s), string(rune(n))))
			} else {
				check(t, s, 0, fault(1, api.ErrForm))
			}
		}
		check(t, mark+"\\xaBcD;\\x0;"+mark, 0, is(0, 13, "\uABCD\x00"))
		check(t, mark+"\\x41;42;"+mark, 0, is(0, 10, "A42;"))
		check(t, mark+"\\x7c;\\x22;\\x5c;n"+mark, 0, is(0, 18, "|\"\\n"))
		check(t, mark+"\\x41;\\q"+mark, 0, fault(6, api.ErrForm))
		for _, s := range []string{
			"x", "x;", "xg;", "x41", "x41 ;", "x 41;", "x4 1;", "x-1;", "x+1;", "x0x41;", "x4_1;", "x4g;", "x\u0661;", "xff\xff;", "X41;", "u41;", "x.;", "x4\\;",
			"x0000041;", "x0000000;", "x1000000;", "xfffffff;", "x00000000000000000041;", "x110000;", "xFFFFFF;", "xd800;", "xDFFF;", "x00D800;",
		} {
			for _, end := range []string{mark, "", " ;" + mark, mark + ";"} {
				check(t, mark+"a\\"+s+end, 0, fault(2, api.ErrForm))
			}
			check(t, " "+mark+"ä\\"+s, 0, fault(4, api.ErrForm))
		}
	})
}

func TestP4_1OpenStrings(t *testing.T) {
	marked(t, func(mark string, is func(at, end int, s string) answer) {
		for _, s := range []string{"", "a", " ", "a\n", "\\\\", "\\n", "\\" + mark, "\\x41;", "\\", "a\\", "\\\\\\", "\xff", "\xff\\", strings.Repeat("a", 63), strings.Repeat("a", 63) + "\\", "; a", "ä"} {
			check(t, mark+s, 0, fault(0, api.ErrEnd))
			check(t, "\n;a\n "+mark+s, 0, fault(5, api.ErrEnd))
		}
	})
	// The other one's mark does not end it.
	check(t, `"|`, 0, fault(0, api.ErrEnd))
	check(t, `|"`, 0, fault(0, api.ErrEnd))
}

func TestP4_1Sizes(t *testing.T) {
	for _, c := range []string{"x", "ä", "€", "😀", "\uFFFD", "\U0010FFFF"} {
		for _, n := range []int{1, 2, 61, 62, 63, 64, 500} {
			text := strings.Repeat(c, n)
			bare, quoted, other := sym(1, 1+len(text), text), str(1, 3+len(text), text), sym(1, 3+len(text), text)
			if n > 62 {
				bare, quoted, other = fault(1, api.ErrBig), fault(1, api.ErrBig), fault(1, api.ErrBig)
			}
			check(t, " "+text, 0, bare)
			check(t, " \""+text+"\"", 0, quoted)
			check(t, " |"+text+"|", 0, other)
			check(t, " "+text+"(", 0, bare)
		}
	}
	marked(t, func(mark string, is func(at, end int, s string) answer) {
		// An escape is one char.
		for part, c := range map[string]string{"\\n": "\n", "\\\\": "\\", "\\x41;": "A", "\\x01f600;": "😀"} {
			long := mark + strings.Repeat(part, 62)
			check(t, long+mark, 0, is(0, len(long)+1, strings.Repeat(c, 62)))
			check(t, long+part+mark, 0, fault(0, api.ErrBig))
			check(t, long+"a"+mark, 0, fault(0, api.ErrBig))
		}
	})
	check(t, "\"\"", 0, str(0, 2, ""))
	check(t, "||", 0, fault(0, api.ErrForm))
	check(t, " ||a", 0, fault(1, api.ErrForm))
	check(t, "|\\x0;|", 0, sym(0, 6, "\x00"))
}

func TestP4_1Numbers(t *testing.T) {
	limit := new(big.Int).Lsh(big.NewInt(1), 48*32)
	below := new(big.Int).Sub(limit, big.NewInt(1))
	values := []*big.Int{big.NewInt(0), big.NewInt(1), big.NewInt(9), big.NewInt(10), big.NewInt(1<<32 - 1), big.NewInt(1 << 32), big.NewInt(1 << 60), below, new(big.Int).Rsh(limit, 32), new(big.Int).Rsh(below, 32)}
	for _, v := range values {
		digits, minus := v.String(), new(big.Int).Neg(v)
		for _, noughts := range []string{"", "0", strings.Repeat("0", 3000)} {
			size := len(noughts) + len(digits)
			check(t, noughts+digits+")", 0, tokenOf(0, size, numberOf(v)))
			check(t, "+"+noughts+digits, 0, tokenOf(0, size+1, numberOf(v)))
			check(t, " -"+noughts+digits, 0, tokenOf(1, size+2, numberOf(minus)))
		}
	}
	for _, s := range []string{limit.String(), "+" + limit.String(), "-" + limit.String(), "0" + limit.String(), strings.Repeat("9", 4000), "-" + strings.Repeat("9", 463)} {
		check(t, "\n"+s, 0, fault(1, api.ErrBig))
		check(t, "\n"+s+" ", 0, fault(1, api.ErrBig))
	}
	for _, s := range []string{"+", "-", "--", "+-5", "-+5", "--5", "5-", "5+5", "-a", "5a", "-5a", "+5.", "5.5", ".5", "1e5", "1_000", "0x10", "1/2", "٣", "-٣", "5٣", "５", "5\u00a0", "5\x00", "5#", "5#t", "5\\", "5@"} {
		check(t, s, 0, sym(0, len(s), s))
	}
	check(t, "5,5", 0, tokenOf(0, 1, api.Datum{Kind: api.DatInt, N: api.Num{Mag: []uint32{5}}}))
	check(t, strings.Repeat("9", 62)+"a", 0, fault(0, api.ErrBig))
}

func TestP4_1Truths(t *testing.T) {
	for _, c := range []struct {
		s    string
		kind int
	}{{"#t", api.DatTrue}, {"#true", api.DatTrue}, {"#f", api.DatNo}, {"#false", api.DatNo}} {
		check(t, c.s, 0, tokenOf(0, len(c.s), api.Datum{Kind: c.kind}))
		check(t, c.s+"|a|", 0, tokenOf(0, len(c.s), api.Datum{Kind: c.kind}))
	}
	for _, s := range []string{"#", "##", "#T", "#F", "#True", "#tr", "#tru", "#truee", "#tt", "#fals", "#falsee", "#x1", "#1", "#d5", "#u8", "#a", "#@", "#.", "#-5", "#t.", "#t#", "#t\\", "#!eof", "#ä", "#t\x00", "#t\v", "#" + strings.Repeat("a", 63)} {
		check(t, s, 0, fault(0, api.ErrForm))
		for _, behind := range delimiters {
			check(t, " "+s+string(behind), 0, modelNext(" "+s+string(behind), 0))
		}
	}
	// What follows a # alone.
	for _, behind := range []string{" ", "\n", ")", "[", "]", "\"a\"", ";", ";(a)", "'", "`", ",", ",@"} {
		check(t, " #"+behind, 0, fault(1, api.ErrForm))
	}
}

func TestP4_1Chars(t *testing.T) {
	for c := range rune(0x110000) {
		if !isChar(int64(c)) {
			continue
		}
		s := "#\\" + string(c)
		want := char(0, len(s), c)
		check(t, s, 0, want)
		check(t, s+")", 0, want)
		hex := "#\\x" + strconv.FormatInt(int64(c), 16)
		if c%2 == 1 {
			hex = "#\\x" + strings.ToUpper(strings.Repeat("0", 9-len(hex))+hex[3:])
		}
		check(t, hex, 0, char(0, len(hex), c))
	}
	for name, c := range charNames {
		s := "#\\" + name
		check(t, s, 0, char(0, len(s), c))
		for _, behind := range delimiters {
			check(t, " "+s+string(behind)+"a", 0, char(1, len(s)+1, c))
		}
		for _, other := range []string{strings.ToUpper(s), s + "s", s[:len(s)-1], s + "|", s + "#", s + "\\", s + "\x00", s + "\v", "#\\" + strings.ToUpper(name[:1]) + name[1:]} {
			check(t, other, 0, fault(0, api.ErrForm))
		}
	}
	// The first char is one whatever it is; those behind it go up to a delimiter.
	for _, first := range delimiters + "x|#\\a5ä😀" {
		for _, behind := range delimiters {
			s := "#\\" + string(first)
			check(t, s+string(behind)+"a", 0, char(0, len(s), first))
		}
		check(t, "\t#\\"+string(first)+"|", 0, fault(1, api.ErrForm))
		check(t, "\t#\\"+string(first)+"#|", 0, fault(1, api.ErrForm))
		check(t, "\t#\\"+string(first)+"ä", 0, fault(1, api.ErrForm))
		check(t, "\t#\\"+string(first)+string(first), 0, modelNext("\t#\\"+string(first)+string(first), 0))
	}
}

func TestP4_1BadChars(t *testing.T) {
	check(t, "#\\", 0, fault(0, api.ErrEnd))
	check(t, " ;\n#\\", 0, fault(3, api.ErrEnd))
	for _, name := range []string{
		"ab", " a", "(a", "\nnewline", "xg", "x4g", "x-1", "x+1", "x0x1", "x4_1", "X41", "x41h", "xx", "x.", "x|", "xä", "x0000041", "x0000000", "x1000000", "x110000", "xFFFFFF", "xd800", "xDFFF", "x00d800",
		"linefeed", "null", "nul\x00", "esc", "rubout", "altmode", "page", "Space", "NUL", "U+41", "u41", "41", "e\u0301", "\u00e4\u00e4", "aa",
	} {
		check(t, "#\\"+name, 0, fault(0, api.ErrForm))
		check(t, "a #\\"+name+" ", 1, fault(2, api.ErrForm))
	}
}

func TestP4_1NoUTF8(t *testing.T) {
	for _, bad := range badBytes() {
		for _, s := range []string{bad, "a" + bad, bad + "a", "5" + bad, "-" + bad, "." + bad, "#" + bad, "#t" + bad, "#\\" + bad, "#\\a" + bad, "#\\x41" + bad, "#\\space" + bad, "#\\ä" + bad, "ä" + bad + "ä"} {
			check(t, "\n"+s, 0, fault(1, api.ErrForm))
			check(t, "\n"+s+" ä", 0, fault(1, api.ErrForm))
		}
		// A delimiter ends a token behind them too.
		check(t, bad+" ", 0, fault(0, api.ErrForm))
		check(t, bad+"(", len(bad), bareToken(api.TokOpen, len(bad), len(bad)+1))
		marked(t, func(mark string, is func(at, end int, s string) answer) {
			for _, s := range []string{bad, "a" + bad, bad + "a", bad + "\\n", "\\x41;" + bad, "\\xe9;" + bad, "ä" + bad + "ä", bad + "\\x80;", strings.Repeat("a", 70) + bad} {
				check(t, " "+mark+s+mark, 0, fault(1, api.ErrForm))
			}
			check(t, mark+"a"+mark+bad, 0, is(0, 3, "a"))
			check(t, mark+bad+mark+mark, 0, fault(0, api.ErrForm))
		})
		check(t, "; "+bad+"\n#|"+bad+"|#a", 0, sym(2*len(bad)+7, 2*len(bad)+8, "a"))
	}
}

// Of several errors in one token.
func TestP4_1Order(t *testing.T) {
	long, bad := strings.Repeat("a", 63), "\xff"
	marked(t, func(mark string, is func(at, end int, s string) answer) {
		// From the left: the first escape that is none, ahead of the text's end.
		check(t, mark+"\\q\\w"+mark, 0, fault(1, api.ErrForm))
		check(t, mark+"a\\q", 0, fault(2, api.ErrForm))
		check(t, mark+"\\q\\", 0, fault(1, api.ErrForm))
		check(t, mark+"\\q"+mark+"\\w", 0, fault(1, api.ErrForm))
		check(t, mark+"a"+mark+"\\q", 0, is(0, 3, "a"))
		// Both of these ahead of what is told of the whole.
		check(t, mark+bad+"\\q"+mark, 0, fault(2, api.ErrForm))
		check(t, mark+long+"\\q"+mark, 0, fault(64, api.ErrForm))
		check(t, mark+long+bad+"\\xd800;"+mark, 0, fault(65, api.ErrForm))
		check(t, mark+bad+long, 0, fault(0, api.ErrEnd))
		check(t, mark+bad+long+"\\", 0, fault(0, api.ErrEnd))
		check(t, mark+long+bad+mark, 0, fault(0, api.ErrForm))
		check(t, mark+long+mark, 0, fault(0, api.ErrBig))
	})
	check(t, long+bad, 0, fault(0, api.ErrForm))
	check(t, "#"+long+bad, 0, fault(0, api.ErrForm))
	check(t, strings.Repeat("9", 500)+bad, 0, fault(0, api.ErrForm))
	check(t, "#\\"+long, 0, fault(0, api.ErrForm))
	check(t, "#\\"+long+bad, 0, fault(0, api.ErrForm))
	// The first token's error, whatever the next one's is.
	check(t, long+" \"", 0, fault(0, api.ErrBig))
	check(t, "# #|", 0, fault(0, api.ErrForm))
	check(t, "#| #", 0, fault(0, api.ErrEnd))
}
