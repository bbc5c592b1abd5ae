package space_test

import (
	"maps"
	"math/rand/v2"
	"testing"

	"moraine/api"
	"moraine/pieces"
	"moraine/space"
)

// A model is a space as the chapter tells of it: a memory, and by generation and
// kind the current segment, where there is one.
type model struct {
	*pieces.Mem
	current map[[2]int]int
}

func (m model) Alloc(gen, kind, n int) (int, api.Errno) {
	switch {
	case gen < 0 || gen > 4 || kind < 0 || kind > 3:
		return 0, api.ErrArg
	case kind < 2 && n != 2:
		return 0, api.ErrArg
	case n < 1 || n > 63:
		return 0, api.ErrArg
	}
	at := [2]int{gen, kind}
	if seg, ok := m.current[at]; ok {
		if s, _ := m.Seg(seg); 64-s.N >= n {
			return m.Bump(seg, n)
		}
	}
	if m.Free() == 0 {
		return 0, api.ErrFull
	}
	seg, _ := m.Take(gen, kind)
	m.current[at] = seg
	return m.Bump(seg, n)
}

func (m model) Fresh(gens ...int) {
	maps.DeleteFunc(m.current, func(at [2]int, _ int) bool {
		for _, gen := range gens {
			if gen == at[0] {
				return true
			}
		}
		return len(gens) == 0
	})
}

func (m model) Give(seg int) api.Errno {
	maps.DeleteFunc(m.current, func(_ [2]int, other int) bool { return other == seg })
	return m.Mem.Give(seg)
}

func (m model) Current(gen, kind int) (int, bool) {
	seg, ok := m.current[[2]int{gen, kind}]
	return seg, ok
}

func (m model) Words(gens ...int) int {
	sum := 0
	for _, seg := range m.Taken(gens...) {
		s, _ := m.Seg(seg)
		sum += s.N
	}
	return sum
}

// A both is a space, and what it is to be.
type both struct {
	*space.Space
	want model
}

// fresh is a space of that limit, in which nothing is.
func fresh(t *testing.T, limit int) both {
	t.Helper()
	s, e := space.New(limit)
	if s == nil || e != api.OK {
		t.Fatalf("New(%d): %v, %d", limit, s != nil, e)
	}
	return both{s, model{pieces.New(limit), map[[2]int]int{}}}
}

func (b both) alloc(t *testing.T, gen, kind, n int) int {
	t.Helper()
	addr, e := b.Alloc(gen, kind, n)
	if want, f := b.want.Alloc(gen, kind, n); addr != want || e != f {
		t.Fatalf("Alloc(%d, %d, %d): %d, %d; want %d, %d", gen, kind, n, addr, e, want, f)
	}
	return addr
}

func (b both) fresh(gens ...int) {
	b.Fresh(gens...)
	b.want.Fresh(gens...)
}

func (b both) give(t *testing.T, seg int) {
	t.Helper()
	if e, f := b.Give(seg), b.want.Give(seg); e != f {
		t.Fatalf("Give(%d): %d; want %d", seg, e, f)
	}
}

func (b both) write(t *testing.T, addr int, w api.Word) {
	t.Helper()
	if e, f := b.Write(addr, w), b.want.Write(addr, w); e != f {
		t.Fatalf("Write(%d, %d): %d; want %d", addr, w, e, f)
	}
}

func (b both) mark(t *testing.T, seg, card, mark int) {
	t.Helper()
	if e, f := b.Mark(seg, card, mark), b.want.Mark(seg, card, mark); e != f {
		t.Fatalf("Mark(%d, %d, %d): %d; want %d", seg, card, mark, e, f)
	}
}

func (b both) words(t *testing.T, gens ...int) {
	t.Helper()
	if n, want := b.Words(gens...), b.want.Words(gens...); n != want {
		t.Fatalf("Words(%v): %d; want %d", gens, n, want)
	}
}

// check fails, unless all that can be told of the space is as it is to be.
func (b both) check(t *testing.T) {
	t.Helper()
	if unlike := b.want.Unlike(b.Space); unlike != "" {
		t.Fatal(unlike)
	}
	b.words(t)
	for gen := -1; gen <= 5; gen++ {
		b.words(t, gen)
		for kind := -1; kind <= 4; kind++ {
			seg, ok := b.Current(gen, kind)
			if want, there := b.want.Current(gen, kind); seg != want || ok != there {
				t.Fatalf("Current(%d, %d): %d, %v; want %d, %v", gen, kind, seg, ok, want, there)
			}
		}
	}
}

func (b both) copy(t *testing.T) both {
	t.Helper()
	c := both{b.Copy(), model{b.want.Copy(), maps.Clone(b.want.current)}}
	if c.Space == nil || c.Space == b.Space || c.Mem == b.Mem {
		t.Fatalf("a copy is none")
	}
	return c
}

// used is a space with something of everything, as far as there is room.
func used(t *testing.T, limit int) both {
	t.Helper()
	b := fresh(t, limit)
	w := wild{rand.New(rand.NewPCG(8, uint64(limit)))}
	for range 60 * limit {
		w.one(t, b)
	}
	return b
}

// A wild makes calls by a fixed rule.
type wild struct{ *rand.Rand }

// near is a number from 0 to below n, now and then one beside.
func (w wild) near(n int) int {
	switch w.IntN(40) {
	case 0:
		return -1
	case 1:
		return n
	}
	return w.IntN(n)
}

// size is how many words something of a kind has, now and then one that it can't
// have.
func (w wild) size(kind int) int {
	if kind < 2 && w.IntN(40) > 0 {
		return 2
	}
	return w.near(1 << w.IntN(7))
}

// gens are some generations, or none.
func (w wild) gens() []int {
	l := make([]int, w.IntN(4))
	for i := range l {
		l[i] = w.near(5)
	}
	return l
}

// one makes a call on b, which is held against what it is to be.
func (w wild) one(t *testing.T, b both) {
	t.Helper()
	n := b.want.Limit()
	switch w.IntN(16) {
	case 0, 1, 2:
		b.give(t, w.near(n))
	case 3:
		b.fresh(w.gens()...)
	case 4:
		b.words(t, w.gens()...)
	case 5:
		b.mark(t, w.near(n), w.near(4), w.near(6))
	case 6, 7:
		b.write(t, w.near(64*n), api.Word(w.Uint64()))
	default:
		w.alloc(t, b)
	}
}

// alloc puts something.
func (w wild) alloc(t *testing.T, b both) int {
	t.Helper()
	kind := w.near(4)
	return b.alloc(t, w.near(5), kind, w.size(kind))
}
