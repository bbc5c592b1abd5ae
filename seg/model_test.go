package seg_test

import (
	"math/rand/v2"
	"slices"
	"testing"

	"moraine/api"
	"moraine/pieces"
	"moraine/seg"
)

// A both is a memory, and what it is to be.
type both struct {
	*seg.Mem
	want *pieces.Mem
}

// fresh is a memory of that limit, all free.
func fresh(t *testing.T, limit int) both {
	t.Helper()
	m, e := seg.New(limit)
	if m == nil || e != api.OK {
		t.Fatalf("New(%d): %v, %d", limit, m != nil, e)
	}
	return both{m, pieces.New(limit)}
}

func (b both) take(t *testing.T, gen, kind int) int {
	t.Helper()
	n, e := b.Take(gen, kind)
	if want, f := b.want.Take(gen, kind); n != want || e != f {
		t.Fatalf("Take(%d, %d): %d, %d; want %d, %d", gen, kind, n, e, want, f)
	}
	return n
}

func (b both) give(t *testing.T, seg int) {
	t.Helper()
	if e, f := b.Give(seg), b.want.Give(seg); e != f {
		t.Fatalf("Give(%d): %d; want %d", seg, e, f)
	}
}

func (b both) bump(t *testing.T, seg, n int) {
	t.Helper()
	addr, e := b.Bump(seg, n)
	if want, f := b.want.Bump(seg, n); addr != want || e != f {
		t.Fatalf("Bump(%d, %d): %d, %d; want %d, %d", seg, n, addr, e, want, f)
	}
}

func (b both) write(t *testing.T, addr int, w api.Word) {
	t.Helper()
	if e, f := b.Write(addr, w), b.want.Write(addr, w); e != f {
		t.Fatalf("Write(%d, %d): %d; want %d", addr, w, e, f)
	}
}

func (b both) mark(t *testing.T, seg, card, mark int) {
	t.Helper()
	if e, f := b.Mark(seg, card, mark), b.want.Mark(seg, card, mark); e != f {
		t.Fatalf("Mark(%d, %d, %d): %d; want %d", seg, card, mark, e, f)
	}
}

func (b both) read(t *testing.T, addr int) {
	t.Helper()
	w, e := b.Read(addr)
	if want, f := b.want.Read(addr); w != want || e != f {
		t.Fatalf("Read(%d): %d, %d; want %d, %d", addr, w, e, want, f)
	}
}

func (b both) tells(t *testing.T, gens ...int) {
	t.Helper()
	if l, want := b.Taken(gens...), b.want.Taken(gens...); !slices.Equal(l, want) {
		t.Fatalf("Taken(%v): %v; want %v", gens, l, want)
	}
}

func (b both) is(t *testing.T, seg int) {
	t.Helper()
	s, ok := b.Seg(seg)
	if want, there := b.want.Seg(seg); s != want || ok != there {
		t.Fatalf("Seg(%d): %+v, %v; want %+v, %v", seg, s, ok, want, there)
	}
}

// check fails, unless all that can be told of the memory is as it is to be.
func (b both) check(t *testing.T) {
	t.Helper()
	if unlike := b.want.Unlike(b.Mem); unlike != "" {
		t.Fatal(unlike)
	}
}

func (b both) copy(t *testing.T) both {
	t.Helper()
	c := both{b.Copy(), b.want.Copy()}
	if c.Mem == nil || c.Mem == b.Mem {
		t.Fatalf("a copy is none")
	}
	return c
}

// used is a memory with something of everything: segments of all generations
// and kinds, given and taken anew, words used and written, marks.
func used(t *testing.T, limit int) both {
	t.Helper()
	b := fresh(t, limit)
	w := wild{rand.New(rand.NewPCG(7, uint64(limit)))}
	for range 60 * limit {
		w.one(t, b)
	}
	return b
}

// A wild makes calls by a fixed rule.
type wild struct{ *rand.Rand }

// near is a number from 0 to below n, now and then one beside.
func (w wild) near(n int) int {
	switch w.IntN(40) {
	case 0:
		return -1
	case 1:
		return n
	}
	return w.IntN(n)
}

// word is a word of any bits.
func (w wild) word() api.Word { return api.Word(w.Uint64() >> w.IntN(64)) }

// one makes a call on b, which is held against what it is to be.
func (w wild) one(t *testing.T, b both) {
	t.Helper()
	n := b.want.Limit()
	switch w.IntN(12) {
	case 0, 1:
		b.take(t, w.near(5), w.near(4))
	case 2, 3:
		b.give(t, w.near(n))
	case 4, 5:
		b.bump(t, w.near(n), w.near(1<<w.IntN(7)))
	case 6, 7:
		b.mark(t, w.near(n), w.near(4), w.near(6))
	default:
		b.write(t, w.near(64*n), w.word())
	}
}
