// Package pieces is a memory as chapter 7 tells of it, in the plainest way: the
// tests of layers that have a memory hold it against this one. The program itself
// does not use it.
package pieces

import (
	"slices"

	"moraine/api"
)

// A piece is a segment that is taken; its words are those that are used.
type piece struct {
	seg, gen, kind int
	words          []api.Word
	cards          [4]int
}

// Mem is what a memory is to be: its pieces, in the order in which they were
// taken. What is not among them is free. Its calls do what seg's are to do.
type Mem struct {
	limit  int
	pieces []piece
}

// New makes one of limit segments, which is to be from 8 to 1024.
func New(limit int) *Mem { return &Mem{limit: limit} }

func (m *Mem) piece(seg int) *piece {
	for i := range m.pieces {
		if m.pieces[i].seg == seg {
			return &m.pieces[i]
		}
	}
	return nil
}

func (m *Mem) word(addr int) *api.Word {
	for i, p := range m.pieces {
		if place := addr - 64*p.seg; addr >= 0 && place >= 0 && place < len(p.words) {
			return &m.pieces[i].words[place]
		}
	}
	return nil
}

// Take takes the least that is free.
func (m *Mem) Take(gen, kind int) (int, api.Errno) {
	if gen < 0 || gen > 4 || kind < 0 || kind > 3 {
		return 0, api.ErrArg
	}
	for seg := range m.limit {
		if m.piece(seg) == nil {
			m.pieces = append(m.pieces, piece{seg: seg, gen: gen, kind: kind, cards: [4]int{5, 5, 5, 5}})
			return seg, api.OK
		}
	}
	return 0, api.ErrFull
}

// Give makes a segment free.
func (m *Mem) Give(seg int) api.Errno {
	for i, p := range m.pieces {
		if p.seg == seg {
			m.pieces = slices.Concat(m.pieces[:i], m.pieces[i+1:])
			return api.OK
		}
	}
	return api.ErrNone
}

// Seg answers what a segment is.
func (m *Mem) Seg(seg int) (api.Segment, bool) {
	p := m.piece(seg)
	if p == nil {
		return api.Segment{}, false
	}
	return api.Segment{Gen: p.gen, Kind: p.kind, N: len(p.words), Cards: p.cards}, true
}

// Taken answers the segments of these generations, of all if none is named.
func (m *Mem) Taken(gens ...int) []int {
	var l []int
	for _, p := range m.pieces {
		if len(gens) == 0 || slices.Contains(gens, p.gen) {
			l = append(l, p.seg)
		}
	}
	return l
}

// Free answers how many segments are free.
func (m *Mem) Free() int { return m.limit - len(m.pieces) }

// Limit answers how many there are.
func (m *Mem) Limit() int { return m.limit }

// Bump uses n more words of a segment.
func (m *Mem) Bump(seg, n int) (int, api.Errno) {
	p := m.piece(seg)
	if p == nil {
		return 0, api.ErrNone
	}
	if n < 1 {
		return 0, api.ErrArg
	}
	if n > 64 || n+len(p.words) > 64 {
		return 0, api.ErrFull
	}
	addr := 64*seg + len(p.words)
	p.words = append(p.words, make([]api.Word, n)...)
	return addr, api.OK
}

// Read answers a word.
func (m *Mem) Read(addr int) (api.Word, api.Errno) {
	w := m.word(addr)
	if w == nil {
		return 0, api.ErrAddr
	}
	return *w, api.OK
}

// Write makes a word w.
func (m *Mem) Write(addr int, w api.Word) api.Errno {
	old := m.word(addr)
	if old == nil {
		return api.ErrAddr
	}
	*old = w
	return api.OK
}

// Mark gives a card a mark.
func (m *Mem) Mark(seg, card, mark int) api.Errno {
	p := m.piece(seg)
	if p == nil {
		return api.ErrNone
	}
	if card < 0 || card > 3 || mark < 0 || mark > 5 {
		return api.ErrArg
	}
	p.cards[card] = mark
	return api.OK
}

// Copy answers one that goes on by itself.
func (m *Mem) Copy() *Mem {
	c := &Mem{limit: m.limit, pieces: slices.Clone(m.pieces)}
	for i, p := range c.pieces {
		c.pieces[i].words = slices.Clone(p.words)
	}
	return c
}
