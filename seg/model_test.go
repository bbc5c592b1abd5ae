package seg_test

import (
	"math"
	"math/rand/v2"
	"slices"
	"testing"

	"moraine/api"
	"moraine/seg"
)

// A piece is a segment that is taken; its words are those that are used.
type piece struct {
	seg, gen, kind int
	words          []api.Word
	cards          [4]int
}

// A model is a memory as the chapter tells of it: its pieces in the order in
// which they were taken. What is not among them is free.
type model struct {
	limit  int
	pieces []piece
}

func (m *model) piece(seg int) *piece {
	for i := range m.pieces {
		if m.pieces[i].seg == seg {
			return &m.pieces[i]
		}
	}
	return nil
}

func (m *model) word(addr int) *api.Word {
	for i, p := range m.pieces {
		if place := addr - 64*p.seg; addr >= 0 && place >= 0 && place < len(p.words) {
			return &m.pieces[i].words[place]
		}
	}
	return nil
}

func (m *model) Take(gen, kind int) (int, api.Errno) {
	if gen < 0 || gen > 4 || kind < 0 || kind > 3 {
		return 0, api.ErrArg
	}
	for seg := range m.limit {
		if m.piece(seg) == nil {
			m.pieces = append(m.pieces, piece{seg: seg, gen: gen, kind: kind, cards: [4]int{5, 5, 5, 5}})
			return seg, api.OK
		}
	}
	return 0, api.ErrFull
}

func (m *model) Give(seg int) api.Errno {
	for i, p := range m.pieces {
		if p.seg == seg {
			m.pieces = slices.Concat(m.pieces[:i], m.pieces[i+1:])
			return api.OK
		}
	}
	return api.ErrNone
}

func (m *model) Seg(seg int) (api.Segment, bool) {
	p := m.piece(seg)
	if p == nil {
		return api.Segment{}, false
	}
	return api.Segment{Gen: p.gen, Kind: p.kind, N: len(p.words), Cards: p.cards}, true
}

func (m *model) Taken(gens ...int) []int {
	var l []int
	for _, p := range m.pieces {
		if len(gens) == 0 || slices.Contains(gens, p.gen) {
			l = append(l, p.seg)
		}
	}
	return l
}

func (m *model) Free() int { return m.limit - len(m.pieces) }

func (m *model) Limit() int { return m.limit }

func (m *model) Bump(seg, n int) (int, api.Errno) {
	p := m.piece(seg)
	if p == nil {
		return 0, api.ErrNone
	}
	if n < 1 {
		return 0, api.ErrArg
	}
	if n > 64 || n+len(p.words) > 64 {
		return 0, api.ErrFull
	}
	addr := 64*seg + len(p.words)
	p.words = append(p.words, make([]api.Word, n)...)
	return addr, api.OK
}

func (m *model) Read(addr int) (api.Word, api.Errno) {
	w := m.word(addr)
	if w == nil {
		return 0, api.ErrAddr
	}
	return *w, api.OK
}

func (m *model) Write(addr int, w api.Word) api.Errno {
	old := m.word(addr)
	if old == nil {
		return api.ErrAddr
	}
	*old = w
	return api.OK
}

func (m *model) Mark(seg, card, mark int) api.Errno {
	p := m.piece(seg)
	if p == nil {
		return api.ErrNone
	}
	if card < 0 || card > 3 || mark < 0 || mark > 5 {
		return api.ErrArg
	}
	p.cards[card] = mark
	return api.OK
}

func (m *model) Copy() *model {
	c := &model{limit: m.limit, pieces: slices.Clone(m.pieces)}
	for i, p := range c.pieces {
		c.pieces[i].words = slices.Clone(p.words)
	}
	return c
}

// A both is a memory, and what it is to be.
type both struct {
	*seg.Mem
	want *model
}

// fresh is a memory of that limit, all free.
func fresh(t *testing.T, limit int) both {
	t.Helper()
	m, e := seg.New(limit)
	if m == nil || e != api.OK {
		t.Fatalf("New(%d): %v, %d", limit, m != nil, e)
	}
	return both{m, &model{limit: limit}}
}

func (b both) take(t *testing.T, gen, kind int) int {
	t.Helper()
	n, e := b.Take(gen, kind)
	if want, f := b.want.Take(gen, kind); n != want || e != f {
		t.Fatalf("Take(%d, %d): %d, %d; want %d, %d", gen, kind, n, e, want, f)
	}
	return n
}

func (b both) give(t *testing.T, seg int) {
	t.Helper()
	if e, f := b.Give(seg), b.want.Give(seg); e != f {
		t.Fatalf("Give(%d): %d; want %d", seg, e, f)
	}
}

func (b both) bump(t *testing.T, seg, n int) {
	t.Helper()
	addr, e := b.Bump(seg, n)
	if want, f := b.want.Bump(seg, n); addr != want || e != f {
		t.Fatalf("Bump(%d, %d): %d, %d; want %d, %d", seg, n, addr, e, want, f)
	}
}

func (b both) write(t *testing.T, addr int, w api.Word) {
	t.Helper()
	if e, f := b.Write(addr, w), b.want.Write(addr, w); e != f {
		t.Fatalf("Write(%d, %d): %d; want %d", addr, w, e, f)
	}
}

func (b both) mark(t *testing.T, seg, card, mark int) {
	t.Helper()
	if e, f := b.Mark(seg, card, mark), b.want.Mark(seg, card, mark); e != f {
		t.Fatalf("Mark(%d, %d, %d): %d; want %d", seg, card, mark, e, f)
	}
}

func (b both) read(t *testing.T, addr int) {
	t.Helper()
	w, e := b.Read(addr)
	if want, f := b.want.Read(addr); w != want || e != f {
		t.Fatalf("Read(%d): %d, %d; want %d, %d", addr, w, e, want, f)
	}
}

func (b both) tells(t *testing.T, gens ...int) {
	t.Helper()
	if l, want := b.Taken(gens...), b.want.Taken(gens...); !slices.Equal(l, want) {
		t.Fatalf("Taken(%v): %v; want %v", gens, l, want)
	}
}

func (b both) is(t *testing.T, seg int) {
	t.Helper()
	s, ok := b.Seg(seg)
	if want, there := b.want.Seg(seg); s != want || ok != there {
		t.Fatalf("Seg(%d): %+v, %v; want %+v, %v", seg, s, ok, want, there)
	}
}

// check fails, unless all that can be told of the memory is as it is to be.
func (b both) check(t *testing.T) {
	t.Helper()
	if b.Limit() != b.want.limit || b.Free() != b.want.Free() {
		t.Fatalf("%d of %d free; want %d of %d", b.Free(), b.Limit(), b.want.Free(), b.want.limit)
	}
	b.tells(t)
	for gen := -1; gen <= 5; gen++ {
		b.tells(t, gen)
	}
	for seg := -2; seg < b.want.limit+2; seg++ {
		b.is(t, seg)
	}
	for addr := -70; addr < 64*b.want.limit+70; addr++ {
		b.read(t, addr)
	}
}

func (b both) copy(t *testing.T) both {
	t.Helper()
	c := both{b.Copy(), b.want.Copy()}
	if c.Mem == nil || c.Mem == b.Mem {
		t.Fatalf("a copy is none")
	}
	return c
}

// far are numbers that are no generation, kind, segment, card, mark or address;
// some of them would be one, if it were reckoned with less bits.
func far() []int {
	l := []int{math.MinInt, math.MinInt + 1, math.MaxInt - 1, math.MaxInt, -1024, -65536, 65536, 1 << 20}
	for _, bits := range []int{8, 16, 31, 32, 58, 59, 61, 62} {
		l = append(l, -1<<bits, -1<<bits-1, 1<<bits|1<<20, 1<<bits+1<<20)
		if bits > 16 {
			l = append(l, 1<<bits, 1<<bits+1, 1<<bits+64, -1<<bits+1)
		}
	}
	return l
}

// used is a memory with something of everything: segments of all generations
// and kinds, given and taken anew, words used and written, marks.
func used(t *testing.T, limit int) both {
	t.Helper()
	b := fresh(t, limit)
	w := wild{rand.New(rand.NewPCG(7, uint64(limit)))}
	for range 60 * limit {
		w.one(t, b)
	}
	return b
}

// A wild makes calls by a fixed rule.
type wild struct{ *rand.Rand }

// near is a number from 0 to below n, now and then one beside.
func (w wild) near(n int) int {
	switch w.IntN(40) {
	case 0:
		return -1
	case 1:
		return n
	}
	return w.IntN(n)
}

// word is a word of any bits.
func (w wild) word() api.Word { return api.Word(w.Uint64() >> w.IntN(64)) }

// one makes a call on b, which is held against what it is to be.
func (w wild) one(t *testing.T, b both) {
	t.Helper()
	n := b.want.limit
	switch w.IntN(12) {
	case 0, 1:
		b.take(t, w.near(5), w.near(4))
	case 2, 3:
		b.give(t, w.near(n))
	case 4, 5:
		b.bump(t, w.near(n), w.near(1<<w.IntN(7)))
	case 6, 7:
		b.mark(t, w.near(n), w.near(4), w.near(6))
	default:
		b.write(t, w.near(64*n), w.word())
	}
}
