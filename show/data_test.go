package show_test

import (
	"iter"
	"math/rand/v2"
	"slices"
	"strings"

	"moraine/api"
	"moraine/sample"
)

func sym(s string) api.Datum { return api.Datum{Kind: api.DatSym, T: s} }

func str(s string) api.Datum { return api.Datum{Kind: api.DatStr, T: s} }

func char(c rune) api.Datum { return api.Datum{Kind: api.DatChar, C: c} }

func integer(neg bool, mag ...uint32) api.Datum {
	return api.Datum{Kind: api.DatInt, N: api.Num{Neg: neg, Mag: mag}}
}

func vec(l ...api.Datum) api.Datum { return api.Datum{Kind: api.DatVec, L: l} }

// ending is pairs of l that end in end.
func ending(end api.Datum, l ...api.Datum) api.Datum {
	for _, item := range slices.Backward(l) {
		end = api.Datum{Kind: api.DatPair, L: []api.Datum{item, end}}
	}
	return end
}

func list(l ...api.Datum) api.Datum { return ending(api.Datum{}, l...) }

// seven is a number that may stand anywhere.
func seven() api.Datum { return integer(false, 7) }

// around are the ways in which something lies in a datum one level further
// within, or two.
func around() []func(api.Datum) api.Datum {
	return []func(api.Datum) api.Datum{
		func(d api.Datum) api.Datum { return list(d) },
		func(d api.Datum) api.Datum { return vec(d) },
		func(d api.Datum) api.Datum { return list(seven(), seven(), d) },
		func(d api.Datum) api.Datum { return list(d, seven(), str("a")) },
		func(d api.Datum) api.Datum { return ending(seven(), d) },
		func(d api.Datum) api.Datum { return vec(seven(), d, seven()) },
		func(d api.Datum) api.Datum { return ending(vec(d), seven()) },
		func(d api.Datum) api.Datum { return vec(ending(seven(), seven(), d)) },
	}
}

// nested is core within that many of what puts something around it.
func nested(levels int, core api.Datum, puts func(api.Datum) api.Datum) api.Datum {
	for range levels {
		core = puts(core)
	}
	return core
}

// pieces are chars that tell one token from another, and others.
func pieces() []string {
	return []string{
		"a", "t", "x", "0", "7", "+", "-", ".", "#", "\\", "|", "\"", ";", "'", "`", ",", "@", "(", ")", "[", "]", "<", ">",
		" ", "\t", "\n", "\r", "\f", "\v", "\x00", "\a", "\b", "\x1b", "\x1f", "\x7f", "\u0080", "\u0085", "\u009f", "\u00a0", "ä", "€", "\ufeff", "\ufffd", "😀", "\U0010ffff",
	}
}

// A maker makes data by a fixed rule.
type maker struct{ *rand.Rand }

func newMaker() maker { return maker{rand.New(rand.NewPCG(6, 7))} }

func (m maker) chars(least, most int) string {
	l, s := pieces(), ""
	for range least + m.IntN(most-least+1) {
		s += l[m.IntN(len(l))]
	}
	return s
}

func (m maker) integer() api.Datum {
	size := m.IntN(4)
	if m.IntN(10) == 0 {
		size = m.IntN(49)
	}
	var mag []uint32
	for range size {
		mag = append(mag, m.Uint32()>>m.IntN(32)|1)
	}
	return integer(size > 0 && m.IntN(2) == 0, mag...)
}

// leaf is a datum without items; without nothing and the end, if it is to be
// read.
func (m maker) leaf(read bool) api.Datum {
	kinds := 7
	if read {
		kinds = 6
	}
	switch m.IntN(kinds) {
	case 0:
		return api.Datum{Kind: m.IntN(3)}
	case 1:
		return m.integer()
	case 2:
		return str(m.chars(0, 6))
	case 3:
		return sym(m.chars(1, 5))
	case 4:
		return char([]rune(m.chars(1, 1))[0])
	case 5:
		return sym([]string{"a", "b", "quote", "quasiquote", "...", "#t", "12", "."}[m.IntN(8)])
	}
	return api.Datum{Kind: api.DatVoid + m.IntN(2)}
}

// datum is one with at most that many levels.
func (m maker) datum(levels int, read bool) api.Datum {
	if levels == 0 || m.IntN(4) == 0 {
		return m.leaf(read)
	}
	var l []api.Datum
	for range m.IntN(5) {
		l = append(l, m.datum(levels-1, read))
	}
	switch {
	case m.IntN(3) == 0:
		return vec(l...)
	case m.IntN(2) == 0:
		return ending(m.leaf(read), l...)
	}
	return list(l...)
}

// wild are so many data of up to six levels.
func wild(count int, read bool) iter.Seq[api.Datum] {
	return func(yield func(api.Datum) bool) {
		m := newMaker()
		for i := range count {
			if !yield(m.datum(i%7, read)) {
				return
			}
		}
	}
}

// texts are chars, strings and symbols: all chars, and all short rows of pieces.
func texts(yield func(api.Datum) bool) {
	for c := range rune(0x110000) {
		if (c < 0xD800 || c > 0xDFFF) && !yield(char(c)) {
			return
		}
	}
	for s := range sample.Rows(3, pieces()...) {
		if !yield(str(s)) || s != "" && !yield(sym(s)) {
			return
		}
	}
}

// odd are data that may not be, each for one reason alone.
func odd() []api.Datum {
	l := []api.Datum{
		{Kind: -1}, {Kind: 11}, {Kind: 1 << 32}, {Kind: -1 << 63},
		char(-1), char(0xD800), char(0xDFFF), char(0x110000),
		integer(true), integer(false, 0), integer(true, 7, 0), integer(false, slices.Repeat([]uint32{7}, 49)...),
		sym(""), sym("\xff"), str("a\x80"), str("\xed\xa0\x80"), sym(strings.Repeat("ä", 63)), str(strings.Repeat("a", 63)),
		vec(make([]api.Datum, 63)...),
		{Kind: api.DatPair}, {Kind: api.DatPair, L: make([]api.Datum, 1)}, {Kind: api.DatPair, L: make([]api.Datum, 3)},
	}
	for kind := range 11 {
		d := api.Datum{Kind: kind}
		switch kind {
		case api.DatPair:
			d = list(seven())
		case api.DatSym:
			d = sym("a")
		}
		c, n, s, items := d, d, d, d
		c.C, n.N.Mag, s.T, items.L = 'a', []uint32{7}, "a", []api.Datum{{}}
		if kind != api.DatChar {
			l = append(l, c)
		}
		if kind != api.DatInt {
			l = append(l, n)
		}
		if kind != api.DatStr && kind != api.DatSym {
			l = append(l, s)
		}
		if kind != api.DatPair && kind != api.DatVec {
			l = append(l, items)
		}
	}
	return l
}
