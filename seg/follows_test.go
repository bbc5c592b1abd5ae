package seg_test

import (
	"math/rand/v2"
	"slices"
	"testing"

	"moraine/api"
	"moraine/sample"
	"moraine/seg"
)

func TestP7_5Copy(t *testing.T) {
	for _, b := range []both{fresh(t, 8), fresh(t, 1024), eleven(t), used(t, 8), used(t, 13)} {
		c := b.copy(t)
		c.check(t)
		b.check(t)
		c.copy(t).check(t)
	}
}

// What is done to one of two is not seen in the other one, whichever it is.
func TestP7_5GoesOnByItself(t *testing.T) {
	for _, limit := range []int{8, 20} {
		for turn := range 2 {
			changes := []func(both){
				func(b both) { b.take(t, 1, 1) },
				func(b both) { b.give(t, 0) },
				func(b both) { b.give(t, 2) },
				func(b both) { b.bump(t, 0, 3) },
				func(b both) { b.write(t, 1, 99) },
				func(b both) { b.mark(t, 0, 1, 0) },
				func(b both) { b.give(t, 0); b.take(t, 4, 3); b.bump(t, 0, 64) },
				func(b both) { b.give(t, 3); b.give(t, 1); b.give(t, 2); b.give(t, 0) },
			}
			for _, change := range changes {
				old := fresh(t, limit)
				for n := range 5 {
					old.take(t, n, 2)
					old.bump(t, n, 5+n)
					old.write(t, 64*n+1, api.Word(n))
					old.mark(t, n, 1, 2)
				}
				pair := []both{old, old.copy(t)}
				change(pair[turn])
				pair[0].check(t)
				pair[1].check(t)
				for _, b := range []both{pair[1-turn], pair[turn]} {
					b.take(t, 2, 3)
					pair[0].check(t)
					pair[1].check(t)
				}
			}
		}
	}
}

// A copy of a full memory is full; its least free one is its own.
func TestP7_5CopyOfFull(t *testing.T) {
	b := fresh(t, 8)
	for range 8 {
		b.take(t, 0, 0)
	}
	c := b.copy(t)
	if n, e := c.Take(0, 0); n != 0 || e != api.ErrFull {
		t.Errorf("Take: %d, %d", n, e)
	}
	c.give(t, 3)
	c.give(t, 6)
	b.give(t, 5)
	if n := b.take(t, 0, 0); n != 5 {
		t.Errorf("Take: %d; want 5", n)
	}
	if n := c.take(t, 0, 0); n != 3 {
		t.Errorf("Take of the copy: %d; want 3", n)
	}
	b.check(t)
	c.check(t)
}

func TestP7_5NotMade(t *testing.T) {
	args := append(sample.Far(), -1, 0, 1, 4, 5, 8, 64)
	for name, m := range map[string]*seg.Mem{"nil": nil, "a Mem that New did not make": {}} {
		for _, a := range args {
			for _, b := range args {
				if n, e := m.Take(a, b); n != 0 || e != api.ErrArg {
					t.Errorf("%s: Take(%d, %d): %d, %d", name, a, b, n, e)
				}
				if addr, e := m.Bump(a, b); addr != 0 || e != api.ErrNone {
					t.Errorf("%s: Bump(%d, %d): %d, %d", name, a, b, addr, e)
				}
				if e := m.Mark(a, b, 0); e != api.ErrNone {
					t.Errorf("%s: Mark(%d, %d, 0): %d", name, a, b, e)
				}
				if l := m.Taken(a, b); len(l) > 0 {
					t.Errorf("%s: Taken(%d, %d): %v", name, a, b, l)
				}
			}
			if e := m.Give(a); e != api.ErrNone {
				t.Errorf("%s: Give(%d): %d", name, a, e)
			}
			if s, ok := m.Seg(a); s != (api.Segment{}) || ok {
				t.Errorf("%s: Seg(%d): %+v, %v", name, a, s, ok)
			}
			if w, e := m.Read(a); w != 0 || e != api.ErrAddr {
				t.Errorf("%s: Read(%d): %d, %d", name, a, w, e)
			}
			if e := m.Write(a, 1); e != api.ErrAddr {
				t.Errorf("%s: Write(%d, 1): %d", name, a, e)
			}
		}
		if l := m.Taken(); len(l) > 0 || m.Free() != 0 || m.Limit() != 0 {
			t.Errorf("%s: %d of %d free, %v taken", name, m.Free(), m.Limit(), l)
		}
		if c := m.Copy(); c != nil {
			t.Errorf("%s has a copy", name)
		}
	}
}

// Every word of the greatest memory is one of its own.
func TestP7_6Words(t *testing.T) {
	m, _ := seg.New(1024)
	for n := range 1024 {
		m.Take(n%5, n%4)
		m.Bump(n, 64)
	}
	mixed := func(addr int) api.Word { return api.Word(addr+1) * 0x9E3779B97F4A7C15 }
	for addr := range 65536 {
		if e := m.Write(addr, mixed(addr)); e != api.OK {
			t.Fatalf("Write(%d): %d", addr, e)
		}
	}
	for addr := range 65536 {
		if w, e := m.Read(addr); w != mixed(addr) || e != api.OK {
			t.Fatalf("Read(%d): %x, %d; want %x", addr, w, e, mixed(addr))
		}
	}
}

// What is done at one address, or to one segment, is not seen at another one.
func TestP7_6Elsewhere(t *testing.T) {
	b := used(t, 8)
	for range b.Free() {
		b.take(t, 2, 2)
	}
	for n := range 8 {
		s, _ := b.Seg(n)
		if s.N < 64 {
			b.bump(t, n, 64-s.N)
		}
	}
	for addr := range 512 {
		b.write(t, addr, api.Word(addr)<<40|7)
		b.check(t)
	}
	for n := range 8 {
		b.mark(t, n, n%4, n%6)
		b.check(t)
	}
	for _, n := range []int{4, 0, 7} {
		b.give(t, n)
		b.check(t)
	}
}

// A word stays as it is, however often it is read, and whatever else is used.
func TestP7_6Stays(t *testing.T) {
	b := fresh(t, 8)
	b.take(t, 0, 3)
	b.bump(t, 0, 1)
	b.write(t, 0, 5)
	for range 63 {
		b.bump(t, 0, 1)
		b.check(t)
	}
	for range 7 {
		b.bump(t, b.take(t, 0, 3), 64)
		b.check(t)
	}
	b.write(t, 0, 6)
	b.write(t, 0, 6)
	b.check(t)
}

// counts fails, unless the memory's counts are right among themselves.
func counts(t *testing.T, m *seg.Mem) {
	t.Helper()
	l := m.Taken()
	if len(l)+m.Free() != m.Limit() {
		t.Fatalf("%d taken and %d free of %d", len(l), m.Free(), m.Limit())
	}
	sorted := slices.Sorted(slices.Values(l))
	if len(slices.Compact(slices.Clone(sorted))) != len(l) {
		t.Fatalf("one is taken twice: %v", l)
	}
	for n := range m.Limit() {
		_, taken := slices.BinarySearch(sorted, n)
		if _, ok := m.Seg(n); ok != taken {
			t.Fatalf("%d is in Taken: %v, but Seg: %v", n, taken, ok)
		}
	}
	all := 0
	for gen := range 5 {
		for _, n := range m.Taken(gen) {
			all++
			if s, _ := m.Seg(n); s.Gen != gen {
				t.Fatalf("%d is told of the generation %d: %+v", n, gen, s)
			}
		}
	}
	if all != len(l) {
		t.Fatalf("%d are of a generation, of %d", all, len(l))
	}
}

// least fails, unless what a Take of m would answer is the least that is free,
// with no word used; m stays as it is.
func least(t *testing.T, m *seg.Mem) {
	t.Helper()
	want := 0
	for _, ok := m.Seg(want); ok; _, ok = m.Seg(want) {
		want++
	}
	c := m.Copy()
	n, e := c.Take(2, 1)
	if m.Free() == 0 {
		if n != 0 || e != api.ErrFull {
			t.Fatalf("Take, where none is free: %d, %d", n, e)
		}
		return
	}
	s, ok := c.Seg(n)
	if n != want || e != api.OK || s.N != 0 || !ok {
		t.Fatalf("Take: %d, %d, which is %+v, %v; want %d", n, e, s, ok, want)
	}
	if w, e := c.Read(64 * n); w != 0 || e != api.ErrAddr {
		t.Fatalf("the first word of what was taken: %d, %d", w, e)
	}
}

func TestP7_7Counts(t *testing.T) {
	for _, limit := range []int{8, 9, 17, 64} {
		b, w := fresh(t, limit), wild{rand.New(rand.NewPCG(77, uint64(limit)))}
		for range 3000 {
			w.one(t, b)
			counts(t, b.Mem)
		}
	}
}

func TestP7_8Least(t *testing.T) {
	for _, limit := range []int{8, 9, 17, 64} {
		b, w := fresh(t, limit), wild{rand.New(rand.NewPCG(78, uint64(limit)))}
		for range 3000 {
			w.one(t, b)
			least(t, b.Mem)
		}
	}
}

// Memories and copies of them, by calls without a plan: after each call all of
// them are as they are to be.
func TestP7_6Wild(t *testing.T) {
	for seed := range uint64(4) {
		w := wild{rand.New(rand.NewPCG(79, seed))}
		l := []both{fresh(t, 8+w.IntN(3))}
		for range 1500 {
			if w.IntN(50) == 0 {
				l = append(l, l[w.IntN(len(l))].copy(t))
			}
			if len(l) > 3 {
				l = slices.Delete(l, 0, 1)
			}
			w.one(t, l[w.IntN(len(l))])
			for _, b := range l {
				b.check(t)
			}
		}
	}
}

// The greatest memory, by many calls.
func TestP7_6WildGreatest(t *testing.T) {
	b, w := fresh(t, 1024), wild{rand.New(rand.NewPCG(80, 1))}
	for call := range 30_000 {
		w.one(t, b)
		if call%3000 == 0 {
			b.check(t)
		}
	}
	b.check(t)
}
