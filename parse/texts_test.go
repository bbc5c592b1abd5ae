package parse_test

import (
	"iter"
	"math/rand/v2"
	"slices"
	"strings"

	"moraine/sample"
)

// opening are the tokens with which something opens.
func opening() []string { return []string{"(", "[", "#(", "'", "`", ",", ",@"} }

// rows are all texts of at most that many of tokens, parted by blanks.
func rows(most int, tokens ...string) iter.Seq[string] {
	var pieces []string
	for _, token := range tokens {
		pieces = append(pieces, token+" ")
	}
	return sample.Rows(most, pieces...)
}

// A maker makes texts by a fixed rule.
type maker struct{ *rand.Rand }

func newMaker() maker { return maker{rand.New(rand.NewPCG(5, 6))} }

func (m maker) one(l ...string) string { return l[m.IntN(len(l))] }

// leaf is a token that is a datum by itself.
func (m maker) leaf() string {
	return m.one("a", "b", "...", "+", "|a b|", "|\\x41;|", "5", "-5", "4294967296", "-12345678901234567890", "#t", "#false", "#\\a", "#\\(", "#\\space", "\"\"", "\"a(\\n\"", "\"ä\"", "😀")
}

// tokens are those of a datum that may be read, with at most that many levels.
func (m maker) tokens(levels int) []string {
	if levels == 0 || m.IntN(4) == 0 {
		return []string{m.leaf()}
	}
	begin := m.one(opening()...)
	l := []string{begin}
	end, items := ")", m.IntN(5)
	switch begin {
	case "[":
		end = "]"
	case "'", "`", ",", ",@":
		return append(l, m.tokens(levels-1)...)
	}
	for range items {
		l = append(l, m.tokens(levels-1)...)
	}
	if begin != "#(" && items > 0 && m.IntN(3) == 0 {
		l = append(append(l, "."), m.tokens(levels-1)...)
	}
	return append(l, end)
}

// spoilt is l with one of it left out, or changed, or a piece put in.
func (m maker) spoilt(l []string) []string {
	at := m.IntN(len(l))
	piece := m.one(")", "]", ".", "(", "[", "#(", "'", ",@", "a", "\"", "\"\\q\"", "#|", "||", "|", "#", "#\\", "\xff", "#\\xD800", strings.Repeat("a", 63))
	switch m.IntN(3) {
	case 0:
		return slices.Delete(l, at, at+1)
	case 1:
		l[at] = piece
		return l
	}
	return slices.Insert(l, at, piece)
}

// text is l with something between each two that parts them.
func (m maker) text(l []string) string {
	var s strings.Builder
	for _, token := range l {
		s.WriteString(token)
		s.WriteString(m.one(" ", " ", "\n", "\t \r", ";x (\n", " #| ) #| |# |#", "\f"))
	}
	return s.String()
}

// wildTexts are so many texts of up to three data: half of them as they should
// be, the others spoilt once or more often.
func wildTexts(count int) iter.Seq[string] {
	return func(yield func(string) bool) {
		m := newMaker()
		for i := range count {
			var l []string
			for range m.IntN(4) {
				l = append(l, m.tokens(6)...)
			}
			for i%2 == 0 && len(l) > 0 {
				l = m.spoilt(l)
				if m.IntN(2) == 0 {
					break
				}
			}
			if !yield(m.text(l)) {
				return
			}
		}
	}
}

// manyTexts are texts for what follows from the promises.
func manyTexts(yield func(string) bool) {
	for s := range rows(4, "(", "[", ")", "]", "#(", "'", ".", "a") {
		if !yield(s) {
			return
		}
	}
	for s := range wildTexts(6000) {
		if !yield(s) {
			return
		}
	}
}
