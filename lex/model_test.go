package lex_test

import (
	"iter"
	"math/big"
	"regexp"
	"slices"
	"strconv"
	"strings"
	"testing"
	"unicode/utf8"

	"moraine/api"
	"moraine/datum"
	"moraine/lex"
	"moraine/sample"
)

// The model is the chapter's words as patterns, which share nothing with the
// package. A byte that is no UTF-8 is a char of its own to a pattern.
var (
	gapPattern    = regexp.MustCompile(`^(?:[\t\n\f\r ]|;[^\n]*)*`)
	edgePattern   = regexp.MustCompile(`#\||\|#`)
	markPattern   = regexp.MustCompile("^(?:#\\(|,@|[()\\[\\]'`,])")
	charPattern   = regexp.MustCompile("^#\\\\((?s:.)[^\\t\\n\\f\\r ()\\[\\]\";'`,]*)")
	barePattern   = regexp.MustCompile("^[^\\t\\n\\f\\r ()\\[\\]\";'`,|]+")
	intPattern    = regexp.MustCompile(`^[+-]?[0-9]+$`)
	hexPattern    = regexp.MustCompile(`^x([0-9a-fA-F]{1,6})$`)
	stringPattern = regexp.MustCompile(`^(?:[^\\"]|\\[\\"ntr]|\\x[0-9a-fA-F]{1,6};)`)
	symbolPattern = regexp.MustCompile(`^(?:[^\\|]|\\[\\"ntr|]|\\x[0-9a-fA-F]{1,6};)`)
)

var charNames = map[string]rune{"nul": 0, "alarm": 7, "backspace": 8, "tab": 9, "newline": 10, "return": 13, "escape": 27, "space": 32, "delete": 127}

// An answer is what Next answers.
type answer struct {
	token api.Token
	place int
	err   api.Errno
}

func fault(place int, e api.Errno) answer { return answer{place: place, err: e} }

// tokenOf is a token of a datum.
func tokenOf(at, end int, d api.Datum) answer {
	return answer{token: api.Token{Kind: api.TokDatum, At: at, End: end, D: d}}
}

// bareToken is a token of another kind.
func bareToken(kind, at, end int) answer {
	return answer{token: api.Token{Kind: kind, At: at, End: end}}
}

// modelNext is what Next should answer.
func modelNext(s string, at int) answer {
	switch {
	case len(s) > 4096:
		return fault(0, api.ErrLong)
	case at < 0 || at > len(s):
		return fault(0, api.ErrArg)
	}
	for {
		at += len(gapPattern.FindString(s[at:]))
		if !strings.HasPrefix(s[at:], "#|") {
			break
		}
		size := modelComment(s[at:])
		if size < 0 {
			return fault(at, api.ErrEnd)
		}
		at += size
	}
	rest := s[at:]
	switch {
	case rest == "":
		return bareToken(api.TokEnd, at, at)
	case markPattern.MatchString(rest):
		return modelMark(markPattern.FindString(rest), at)
	case rest[0] == '"':
		return modelText(s, at, stringPattern, api.DatStr)
	case rest[0] == '|':
		return modelText(s, at, symbolPattern, api.DatSym)
	case strings.HasPrefix(rest, "#\\"):
		return modelChar(charPattern.FindStringSubmatch(rest), at)
	}
	return modelBare(barePattern.FindString(rest), at)
}

// modelComment is how many bytes the comment has with which s begins; below 0,
// if s ends in it.
func modelComment(s string) int {
	open := 0
	for _, edge := range edgePattern.FindAllStringIndex(s, -1) {
		if s[edge[0]] == '#' {
			open++
		} else {
			open--
		}
		if open == 0 {
			return edge[1]
		}
	}
	return -1
}

func modelMark(mark string, at int) answer {
	kinds := map[string]int{"(": 1, "[": 1, ")": 2, "]": 2, "#(": 3, "'": 4, "`": 5, ",": 6, ",@": 7}
	a := bareToken(kinds[mark], at, at+len(mark))
	a.token.Square = mark == "[" || mark == "]"
	return a
}

func modelText(s string, at int, pattern *regexp.Regexp, kind int) answer {
	var text strings.Builder
	place := at + 1
	for {
		if place == len(s) || s[place:] == "\\" {
			return fault(at, api.ErrEnd)
		}
		if s[place] == s[at] {
			return modelChars(text.String(), at, place+1, kind)
		}
		part := pattern.FindString(s[place:])
		char, ok := modelPart(part)
		if !ok {
			return fault(place, api.ErrForm)
		}
		text.WriteString(char)
		place += len(part)
	}
}

// modelPart is what a part of a string stands for; false of an escape that is
// none.
func modelPart(part string) (string, bool) {
	switch {
	case part == "":
		return "", false
	case part[0] != '\\':
		return part, true
	case part[1] == 'x':
		n, _ := strconv.ParseInt(part[2:len(part)-1], 16, 64)
		return string(rune(n)), isChar(n)
	}
	return strings.NewReplacer(`\n`, "\n", `\t`, "\t", `\r`, "\r", `\\`, `\`, `\"`, `"`, `\|`, "|").Replace(part), true
}

func isChar(n int64) bool { return n >= 0 && n < 0xD800 || n > 0xDFFF && n <= 0x10FFFF }

// modelChars is the string or the symbol of a text.
func modelChars(text string, at, end, kind int) answer {
	switch chars := []rune(text); {
	case !utf8.ValidString(text):
		return fault(at, api.ErrForm)
	case kind == api.DatSym && len(chars) == 0:
		return fault(at, api.ErrForm)
	case len(chars) > 62:
		return fault(at, api.ErrBig)
	}
	return tokenOf(at, end, api.Datum{Kind: kind, T: text})
}

func modelChar(found []string, at int) answer {
	if found == nil {
		return fault(at, api.ErrEnd)
	}
	name, end := found[1], at+len(found[0])
	chars := []rune(name)
	c, ok := chars[0], len(chars) == 1
	if !ok {
		c, ok = charNames[name]
	}
	if hex := hexPattern.FindStringSubmatch(name); hex != nil {
		n, _ := strconv.ParseInt(hex[1], 16, 64)
		c, ok = rune(n), isChar(n)
	}
	if !ok || !utf8.ValidString(name) {
		return fault(at, api.ErrForm)
	}
	return tokenOf(at, end, api.Datum{Kind: api.DatChar, C: c})
}

func modelBare(part string, at int) answer {
	end := at + len(part)
	switch {
	case part == ".":
		return bareToken(api.TokDot, at, end)
	case part == "#t" || part == "#true":
		return tokenOf(at, end, api.Datum{Kind: api.DatTrue})
	case part == "#f" || part == "#false":
		return tokenOf(at, end, api.Datum{Kind: api.DatNo})
	case part[0] == '#':
		return fault(at, api.ErrForm)
	case !intPattern.MatchString(part):
		return modelChars(part, at, end, api.DatSym)
	}
	v, _ := new(big.Int).SetString(part, 10)
	if v.BitLen() > 48*32 {
		return fault(at, api.ErrBig)
	}
	return tokenOf(at, end, numberOf(v))
}

// numberOf is the datum of the number v.
func numberOf(v *big.Int) api.Datum {
	d := api.Datum{Kind: api.DatInt, N: api.Num{Neg: v.Sign() < 0}}
	for left := new(big.Int).Abs(v); left.Sign() > 0; left.Rsh(left, 32) {
		d.N.Mag = append(d.N.Mag, uint32(left.Uint64()))
	}
	return d
}

// modelAll is what All should answer: its tokens, and then an error, or none.
func modelAll(s string) (l []api.Token, last answer) {
	for at := 0; ; {
		a := modelNext(s, at)
		if a.err != api.OK {
			return l, a
		}
		if a.token.Kind == api.TokEnd {
			return l, answer{}
		}
		l = append(l, a.token)
		at = a.token.End
	}
}

// sameToken is whether a and b are the same in all fields.
func sameToken(a, b api.Token) bool {
	return a.Kind == b.Kind && a.At == b.At && a.End == b.End && a.Square == b.Square && datum.Same(a.D, b.D)
}

// check fails, unless Next answers want.
func check(t *testing.T, s string, at int, want answer) {
	t.Helper()
	token, place, e := lex.Next(s, at)
	if !sameToken(token, want.token) || place != want.place || e != want.err {
		t.Fatalf("Next(%q, %d): %+v, %d, %d; not %+v", s, at, token, place, e, want)
	}
}

// sound are pieces of texts that are tokens, or go over.
func sound() []string {
	l := strings.Split("( ) [ ] #( ' ` , ,@ @ . ... #t #true #f #false #\\a #\\x #\\x41 #\\( #\\space #\\nul 5 -5 +5 + - -- 5a -a a 1+ x41; \\ \\n \"\" \"a\" |a| ä € 😀 \uFFFD abc lambda", " ")
	l = append(l, " ", "\n", "\t\r\f", "  \n", "\v", "\x00", "; a (\n", "#| a #| b |# |#", "\"a\\n\\x41;b\"", "|a b\\||", "1234567890123456789012345678901234567890", strings.Repeat("a", 30))
	for _, s := range slices.Clone(l) {
		l = append(l, s+" ")
	}
	return l
}

// odd are pieces that make something else of what stands beside them, or are
// none.
func odd() []string {
	l := strings.Split(".. #T #tr # ## #x1 #\\ #\\xD800 #\\spac \\\\ \\\" \\| \\x; \\x41; \\xD800; \\q \" | || #| |# ;", " ")
	l = append(l, "\xff", "\xc3", "\x80", "\xed\xa0\x80", "\x7f", "\"\\", "|\\x41", strings.Repeat("a", 62), strings.Repeat("ä", 63))
	return append(l, "\""+strings.Repeat("€", 61))
}

// A rule is a fixed rule (xorshift) in place of a random source.
type rule uint64

func (r *rule) below(n int) int {
	*r ^= *r << 13
	*r ^= *r >> 7
	*r ^= *r << 17
	return int(*r >> 11 % rule(n))
}

// wildTexts are texts of pieces one behind the other, at most that many: of sound
// ones alone, or with some that are odd, or many.
func wildTexts(count, most int) iter.Seq[string] {
	return func(yield func(string) bool) {
		r, pieces := rule(88172645463325252), [2][]string{sound(), odd()}
		for i := range count {
			var text strings.Builder
			for range r.below(most + 1) {
				l := pieces[0]
				if r.below(8) < i%4 {
					l = pieces[1]
				}
				text.WriteString(l[r.below(len(l))])
			}
			if !yield(text.String()) {
				return
			}
		}
	}
}

// shortTexts are all texts of at most that many bytes of those that tell
// something.
func shortTexts(most int) iter.Seq[string] {
	return sample.Rows(most, strings.Split("#|\\\"(];\n x4a,@.-'t\xff", "")...)
}
