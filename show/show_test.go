package show_test

import (
	"math/big"
	"slices"
	"strconv"
	"strings"
	"testing"

	"moraine/api"
)

// alone fails, unless d is written and displayed so, by itself and in lists and
// vectors.
func alone(t *testing.T, d api.Datum, written, displayed string) {
	t.Helper()
	check(t, d, written, displayed)
	for _, c := range []struct {
		whole         api.Datum
		ahead, behind string
	}{
		{list(d), "(", ")"}, {list(seven(), d, sym("b")), "(7 ", " b)"}, {ending(seven(), d), "(", " . 7)"}, {ending(seven(), seven(), d), "(7 ", " . 7)"},
		{vec(d), "#(", ")"}, {vec(seven(), d, list()), "#(7 ", " ())"}, {list(vec(list(d))), "(#((", ")))"}, {ending(vec(d), seven()), "(7 . #(", "))"},
	} {
		check(t, c.whole, c.ahead+written+c.behind, c.ahead+displayed+c.behind)
	}
	if d.Kind != api.DatNil && d.Kind != api.DatPair {
		check(t, ending(d, seven()), "(7 . "+written+")", "(7 . "+displayed+")")
	}
}

// same is alone for what is displayed as it is written.
func same(t *testing.T, d api.Datum, text string) {
	t.Helper()
	alone(t, d, text, text)
}

func TestP6_1Kinds(t *testing.T) {
	same(t, api.Datum{}, "()")
	same(t, api.Datum{Kind: api.DatTrue}, "#t")
	same(t, api.Datum{Kind: api.DatNo}, "#f")
	same(t, api.Datum{Kind: api.DatVoid}, "#<void>")
	same(t, api.Datum{Kind: api.DatEnd}, "#<eof>")
	same(t, integer(false), "0")
	same(t, integer(false, 7), "7")
	same(t, integer(true, 7), "-7")
	same(t, integer(true, 0, 1), "-4294967296")
	alone(t, char('d'), `#\d`, "d")
	alone(t, str("b\nc"), `"b\nc"`, "b\nc")
	alone(t, str(""), `""`, "")
	same(t, sym("a"), "a")
	alone(t, sym("a b"), "|a b|", "a b")
	same(t, vec(), "#()")
	same(t, list(seven()), "(7)")
	same(t, ending(seven(), seven()), "(7 . 7)")
	alone(t, list(sym("a"), str("b\nc"), char('d')), `(a "b\nc" #\d)`, "(a b\nc d)")
	alone(t, vec(char(' '), char(0), char(159)), `#(#\space #\nul #\x9f)`, "#(  \x00 \u009f)")
}

func TestP6_1Lists(t *testing.T) {
	one, two, three, nothing := integer(false, 1), integer(false, 2), integer(false, 3), api.Datum{}
	same(t, list(one, two, three), "(1 2 3)")
	same(t, ending(three, one, two), "(1 2 . 3)")
	same(t, vec(one, nothing), "#(1 ())")
	same(t, list(nothing), "(())")
	same(t, list(nothing, nothing), "(() ())")
	same(t, vec(nothing), "#(())")
	same(t, vec(vec()), "#(#())")
	same(t, ending(vec(), one), "(1 . #())")
	same(t, ending(vec(two, three), one), "(1 . #(2 3))")
	same(t, ending(sym("c"), list(one), list(two)), "((1) (2) . c)")
	same(t, list(ending(two, one), ending(one, two)), "((1 . 2) (2 . 1))")
	same(t, ending(ending(three, two), one), "(1 2 . 3)")
	same(t, list(list(list(one), two), three), "(((1) 2) 3)")
	alone(t, ending(str("b"), str("a")), `("a" . "b")`, "(a . b)")
	alone(t, ending(char('b'), sym(".")), `(|.| . #\b)`, "(. . b)")
	// What marks stand for is a list like others.
	for _, name := range []string{"quote", "quasiquote", "unquote", "unquote-splicing"} {
		same(t, list(sym(name), sym("a")), "("+name+" a)")
	}
	same(t, ending(list(sym("unquote"), sym("b")), sym("a")), "(a unquote b)")
}

func TestP6_1Numbers(t *testing.T) {
	edges := []uint32{1, 2, 9, 10, 999999999, 1000000000, 1<<31 - 1, 1 << 31, 1<<32 - 1}
	for size := range 49 {
		for _, low := range append(edges, 0) {
			for _, high := range edges {
				mag := slices.Repeat([]uint32{low}, size)
				n := new(big.Int)
				if size > 0 {
					mag[size-1] = high
				}
				for _, limb := range slices.Backward(mag) {
					n.Add(n.Lsh(n, 32), big.NewInt(int64(limb)))
				}
				check(t, integer(false, mag...), n.String(), n.String())
				if size > 0 {
					check(t, integer(true, mag...), "-"+n.String(), "-"+n.String())
				}
			}
		}
	}
}

func TestP6_1Chars(t *testing.T) {
	for c, name := range names() {
		alone(t, char(c), `#\`+name, string(c))
	}
	for _, c := range []rune{'a', 'x', 'A', '0', '(', ')', '[', '#', '\\', '|', '"', ';', '\'', '.', '~', '!', 160, 'ä', '€', 0xD7FF, 0xE000, 0xFEFF, 0xFFFD, '😀', 0x10FFFF} {
		alone(t, char(c), `#\`+string(c), string(c))
	}
	for c, text := range map[rune]string{1: "x1", 6: "x6", 11: "xb", 12: "xc", 14: "xe", 16: "x10", 26: "x1a", 28: "x1c", 31: "x1f", 128: "x80", 133: "x85", 143: "x8f", 159: "x9f"} {
		alone(t, char(c), `#\`+text, string(c))
	}
	for d := range texts {
		if d.Kind == api.DatChar {
			checkModel(t, d)
		}
	}
}

func TestP6_1Strings(t *testing.T) {
	for _, c := range []struct{ s, written string }{
		{"", `""`}, {" ", `" "`}, {"a", `"a"`}, {"12", `"12"`}, {"a b", `"a b"`},
		{`"`, `"\""`}, {`\`, `"\\"`}, {"\n", `"\n"`}, {"\t", `"\t"`}, {"\r", `"\r"`}, {"\n\n\\\\\"\"", `"\n\n\\\\\"\""`},
		{"|", `"|"`}, {"a|b", `"a|b"`}, {"'", `"'"`}, {";", `";"`}, {"#|", `"#|"`},
		{"\x00", `"\x0;"`}, {"\a", `"\x7;"`}, {"\b", `"\x8;"`}, {"\v", `"\xb;"`}, {"\f", `"\xc;"`}, {"\x1b", `"\x1b;"`}, {"\x1f", `"\x1f;"`}, {"\x7f", `"\x7f;"`},
		{"\u0080", "\"\u0080\""}, {"\u0085", "\"\u0085\""}, {"\u009f", "\"\u009f\""}, {"\u00a0", "\"\u00a0\""}, {"ä€😀", `"ä€😀"`}, {"\ufeff\ufffd", "\"\ufeff\ufffd\""},
		{"a\x00b", `"a\x0;b"`}, {"\x00;", `"\x0;;"`}, {`\n`, `"\\n"`}, {`\x41;`, `"\\x41;"`}, {"say \"a\\b\"\n", `"say \"a\\b\"\n"`},
		{strings.Repeat("\x7f", 62), `"` + strings.Repeat(`\x7f;`, 62) + `"`}, {strings.Repeat("😀", 62), `"` + strings.Repeat("😀", 62) + `"`},
	} {
		alone(t, str(c.s), c.written, c.s)
	}
}

// Symbols that are written as their chars.
func TestP6_1BareSymbols(t *testing.T) {
	for _, s := range []string{
		"a", "abc", "A", "x", "...", "..", ".a", "a.", "a.b", "+", "-", "++", "+-5", "-a", "+a", "5a", "1.5", "1/2", "--5", "5+", "1e5", "+.", "@", "@a", "a@",
		"a#", "a#t", "a#b", "\\", "a\\b", "\\x41", "<=?", "!$%&*/:<=>?^_~", "{", "}", "set!", "call/cc", "list->string",
		"ä", "€", "😀", "\u0080", "\u0085", "\u009f", "\u00a0", "\u2028", "\ufeff", "\ufffd", strings.Repeat("ä", 62), "٣", "+٣", "½",
	} {
		same(t, sym(s), s)
	}
}

// Symbols whose chars are read as another token, as more than one, or as none.
func TestP6_1MarkedSymbols(t *testing.T) {
	for _, s := range []string{
		".", "0", "12", "-5", "+5", "007", "-0", strings.Repeat("9", 62), "+" + strings.Repeat("1", 61),
		"(", ")", "[", "]", "#(", "'", "`", ",", ",@", "'a", "`a", ",a", ",@a", "a'", "a,b", "a;", ";a", ";", "a;b", "#|", "#|a|#", "#|a|#b",
		"#", "#t", "#f", "#true", "#false", "#a", "##", "#<void>", "#<eof>", "#;a", " ", "a ", " a", "a b", " a ", "a(b", "a)", "(a)", "()", "[a]",
	} {
		alone(t, sym(s), strings.ReplaceAll("|_|", "_", escaped(s, "|")), s)
	}
	for _, c := range []struct{ s, written string }{
		{"|", `|\||`}, {"||", `|\|\||`}, {"|a|", `|\|a\||`}, {"a|", `|a\||`}, {"a|b", `|a\|b|`}, {"|a", `|\|a|`}, {"a|b|", `|a\|b\||`},
		{`"`, `|"|`}, {`"a"`, `|"a"|`}, {`a"`, `|a"|`}, {`a"b c`, `|a"b c|`}, {`"a`, `|"a|`},
		{`\ `, `|\\ |`}, {`a\ b`, `|a\\ b|`}, {`\|`, `|\\\||`}, {`"\`, `|"\\|`}, {`#\a`, `|#\\a|`}, {`#\`, `|#\\|`}, {`#\|`, `|#\\\||`},
		{"\n", `|\n|`}, {"\t", `|\t|`}, {"\r", `|\r|`}, {"a\n", `|a\n|`}, {"\ta", `|\ta|`}, {"a\rb", `|a\rb|`},
		{"\x00", `|\x0;|`}, {"\v", `|\xb;|`}, {"\f", `|\xc;|`}, {"\x1b", `|\x1b;|`}, {"\x1f", `|\x1f;|`}, {"\x7f", `|\x7f;|`}, {"a\x00", `|a\x0;|`}, {"a\x7fb", `|a\x7f;b|`}, {"\x01a", `|\x1;a|`},
		{"ä ", "|ä |"}, {"\u0085 ", "|\u0085 |"}, {"\u009f|", "|\u009f\\||"}, {"#ä€😀", "|#ä€😀|"},
	} {
		alone(t, sym(c.s), c.written, c.s)
	}
}

// Every char, in strings and symbols: by itself, first, in the midst, and last.
func TestP6_1CharsOfTexts(t *testing.T) {
	for d := range texts {
		if d.Kind != api.DatChar {
			checkModel(t, d)
			continue
		}
		if d.C > 0x3000 && d.C%101 != 0 {
			continue
		}
		for _, s := range []string{string(d.C), string(d.C) + "a", "a" + string(d.C) + "b", "a" + string(d.C)} {
			checkModel(t, str(s))
			checkModel(t, sym(s))
		}
	}
}

func TestP6_1MayNot(t *testing.T) {
	for _, d := range odd() {
		refused(t, d)
		for _, puts := range around() {
			for _, levels := range []int{1, 2, 9} {
				refused(t, nested(levels, d, puts))
			}
		}
		refused(t, ending(d, seven()))
		refused(t, ending(d, seven(), seven()))
		refused(t, vec(ending(d, seven()), seven()))
	}
}

func TestP6_1Depth(t *testing.T) {
	inCar, inVec := around()[0], around()[1]
	inCdr := around()[6]
	for _, c := range []struct {
		levels        int
		core          api.Datum
		puts          func(api.Datum) api.Datum
		ahead, behind string
	}{
		{64, seven(), inCar, "(", ")"}, {64, api.Datum{}, inCar, "(", ")"}, {64, str("a\\"), inVec, "#(", ")"}, {63, vec(), inVec, "#(", ")"}, {63, list(seven()), inCar, "(", ")"},
		{32, seven(), inCdr, "(7 . #(", "))"}, {32, api.Datum{}, inCdr, "(7 . #(", "))"},
	} {
		whole := nested(c.levels, c.core, c.puts)
		ahead, behind := strings.Repeat(c.ahead, c.levels), strings.Repeat(c.behind, c.levels)
		check(t, whole, ahead+model{true}.text(c.core)+behind, ahead+model{false}.text(c.core)+behind)
		for _, puts := range around() {
			refused(t, puts(whole))
		}
	}
	// What pairs end in is one deeper than they are; a pair is not.
	check(t, list(nested(63, seven(), inCar), seven()), strings.Repeat("(", 64)+"7"+strings.Repeat(")", 63)+" 7)", strings.Repeat("(", 64)+"7"+strings.Repeat(")", 63)+" 7)")
	check(t, ending(nested(64, seven(), inCar), seven()), "(7 "+strings.Repeat("(", 63)+"7"+strings.Repeat(")", 64), "(7 "+strings.Repeat("(", 63)+"7"+strings.Repeat(")", 64))
	refused(t, ending(nested(64, seven(), inVec), seven()))
}

// Vectors and texts have a greatest size, lists have none.
func TestP6_1Sizes(t *testing.T) {
	items := slices.Repeat([]api.Datum{seven()}, 62)
	text := strings.Repeat(" 7", 62)[1:]
	same(t, vec(items...), "#("+text+")")
	same(t, list(items...), "("+text+")")
	var l []api.Datum
	var want strings.Builder
	for i := range 200000 {
		l = append(l, integer(false, uint32(i+1)))
		want.WriteString(" " + strconv.Itoa(i+1))
	}
	s := want.String()[1:]
	shows(t, vec(list(l...)), "#(("+s+"))", "#(("+s+"))")
	shows(t, ending(sym("b"), l...), "("+s+" . b)", "("+s+" . b)")
	refused(t, ending(sym(""), l...))
	refused(t, list(append(l, vec(integer(true)))...))
}

// Nil and empty lists are one.
func TestP6_1Empty(t *testing.T) {
	for kind, text := range map[int]string{api.DatNil: "()", api.DatTrue: "#t", api.DatVec: "#()", api.DatInt: "0", api.DatStr: `""`} {
		d := api.Datum{Kind: kind, N: api.Num{Mag: []uint32{}}, L: []api.Datum{}}
		check(t, list(d), "("+text+")", model{false}.text(list(d)))
	}
}

func TestP6_1Model(t *testing.T) {
	for d := range wild(30000, false) {
		checkModel(t, d)
	}
}
