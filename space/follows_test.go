package space_test

import (
	"math/rand/v2"
	"slices"
	"testing"

	"moraine/api"
	"moraine/sample"
	"moraine/seg"
	"moraine/space"
)

func TestP8_4Copy(t *testing.T) {
	for _, b := range []both{fresh(t, 8), fresh(t, 1024), all(t), used(t, 8), used(t, 30)} {
		c := b.copy(t)
		c.check(t)
		b.check(t)
		c.copy(t).check(t)
		for gen := range 5 {
			for kind := range 4 {
				c.alloc(t, gen, kind, 2)
			}
		}
		c.check(t)
		b.check(t)
	}
}

// What is done to one of two is not seen in the other one, whichever it is.
func TestP8_4GoesOnByItself(t *testing.T) {
	changes := []func(both){
		func(b both) { b.alloc(t, 0, 2, 5) },
		func(b both) { b.alloc(t, 4, 3, 63) },
		func(b both) { b.fresh() },
		func(b both) { b.fresh(2) },
		func(b both) { b.fresh(0, 1); b.alloc(t, 0, 0, 2); b.alloc(t, 1, 0, 2) },
		func(b both) { b.give(t, 7) },
		func(b both) { b.give(t, 0); b.alloc(t, 3, 3, 60); b.alloc(t, 0, 0, 2) },
		func(b both) { b.write(t, 129, 99) },
		func(b both) { b.mark(t, 0, 1, 0) },
		func(b both) {
			for n := range 20 {
				b.give(t, n)
			}
		},
	}
	for turn := range 2 {
		for _, change := range changes {
			old := all(t)
			pair := []both{old, old.copy(t)}
			change(pair[turn])
			pair[0].check(t)
			pair[1].check(t)
			for _, b := range []both{pair[1-turn], pair[turn]} {
				for at := range 20 {
					b.alloc(t, at/4, at%4, 2)
				}
				pair[0].check(t)
				pair[1].check(t)
			}
		}
	}
}

func TestP8_4NotMade(t *testing.T) {
	m, _ := seg.New(8)
	m.Take(0, 0)
	m.Bump(0, 2)
	args := append(sample.Far(), -1, 0, 1, 2, 4, 5, 8, 63, 64)
	for name, s := range map[string]*space.Space{"nil": nil, "a Space that New did not make": {}, "a memory alone": {Mem: m}} {
		for _, a := range args {
			for _, b := range args {
				for _, n := range []int{2, b} {
					if addr, e := s.Alloc(a, b, n); addr != 0 || e != api.ErrArg {
						t.Errorf("%s: Alloc(%d, %d, %d): %d, %d", name, a, b, n, addr, e)
					}
				}
				if n, ok := s.Current(a, b); n != 0 || ok {
					t.Errorf("%s: Current(%d, %d): %d, %v", name, a, b, n, ok)
				}
				if n := s.Words(a, b); n != 0 {
					t.Errorf("%s: Words(%d, %d): %d", name, a, b, n)
				}
				s.Fresh(a, b)
			}
			if e := s.Give(a); e != api.ErrNone {
				t.Errorf("%s: Give(%d): %d", name, a, e)
			}
		}
		s.Fresh()
		if n := s.Words(); n != 0 {
			t.Errorf("%s: Words: %d", name, n)
		}
		if c := s.Copy(); c != nil {
			t.Errorf("%s has a copy", name)
		}
	}
	if w, e := m.Read(1); w != 0 || e != api.OK || m.Free() != 7 {
		t.Errorf("the memory has changed: %d, %d, %d free", w, e, m.Free())
	}
}

// A space that New did not make has no memory: its calls answer as those of none.
func TestP8_4NotMadeMemory(t *testing.T) {
	s := &space.Space{}
	for _, a := range append(sample.Far(), -1, 0, 1, 4, 7, 8, 64) {
		if told, ok := s.Seg(a); told != (api.Segment{}) || ok {
			t.Errorf("Seg(%d): %+v, %v", a, told, ok)
		}
		if l := s.Taken(a); len(l) > 0 {
			t.Errorf("Taken(%d): %v", a, l)
		}
		w, e := s.Read(a)
		if f := s.Write(a, 1); w != 0 || e != api.ErrAddr || f != api.ErrAddr {
			t.Errorf("Read(%d): %d, %d; Write: %d", a, w, e, f)
		}
		if e := s.Mark(a, 0, 0); e != api.ErrNone {
			t.Errorf("Mark(%d, 0, 0): %d", a, e)
		}
	}
	if l := s.Taken(); len(l) > 0 || s.Free() != 0 || s.Limit() != 0 {
		t.Errorf("%d of %d free, %v taken", s.Free(), s.Limit(), l)
	}
}

// A thing is what was put by one Alloc.
type thing struct{ addr, gen, kind, n int }

// apart fails, unless all things lie apart, each within one segment, of its
// generation and kind.
func apart(t *testing.T, s *space.Space, things []thing) {
	t.Helper()
	l := slices.SortedFunc(slices.Values(things), func(a, b thing) int { return a.addr - b.addr })
	end := 0
	for _, x := range l {
		if x.addr < end {
			t.Fatalf("%+v overlaps what ends at %d", x, end)
		}
		end = x.addr + x.n
		if x.addr/64 != (end-1)/64 {
			t.Fatalf("%+v lies in two segments", x)
		}
		if told, ok := s.Seg(x.addr / 64); !ok || told.Gen != x.gen || told.Kind != x.kind || x.addr%64+x.n > told.N {
			t.Fatalf("%+v lies in %+v, %v", x, told, ok)
		}
	}
}

// Things are put, given back and put anew, with Fresh between: they lie apart,
// and what was written in each stays.
func TestP8_5Apart(t *testing.T) {
	for _, limit := range []int{8, 21, 64} {
		s, _ := space.New(limit)
		w := wild{rand.New(rand.NewPCG(85, uint64(limit)))}
		var things []thing
		for call := range api.Word(4000) {
			kind := w.IntN(4)
			x := thing{gen: w.IntN(5), kind: kind, n: 2}
			if kind > 1 {
				x.n = 1 + w.IntN(1<<w.IntN(7))%63
			}
			addr, e := s.Alloc(x.gen, x.kind, x.n)
			if e == api.OK {
				x.addr = addr
				things = append(things, x)
				for place := range x.n {
					s.Write(addr+place, api.Word(x.addr+place)*(1<<20))
				}
			}
			if e == api.ErrFull || w.IntN(60) == 0 {
				given := w.IntN(limit)
				s.Give(given)
				things = slices.DeleteFunc(things, func(x thing) bool { return x.addr/64 == given })
			}
			if w.IntN(50) == 0 {
				s.Fresh(w.gens()...)
			}
			if call%10 == 0 {
				apart(t, s, things)
			}
		}
		apart(t, s, things)
		for _, x := range things {
			for place := range x.n {
				if w, e := s.Read(x.addr + place); w != api.Word(x.addr+place)*(1<<20) || e != api.OK {
					t.Fatalf("the word %d of %+v became %x, %d", place, x, w, e)
				}
			}
		}
	}
}

// filled fails, unless of any two segments of one generation and kind that were
// taken one behind the other more than 64 words are used.
func filled(t *testing.T, s *space.Space) {
	t.Helper()
	for gen := range 5 {
		var last [4]int
		for _, n := range s.Taken(gen) {
			told, _ := s.Seg(n)
			if before := last[told.Kind]; before > 0 && before+told.N <= 64 {
				t.Fatalf("of two segments of %d and %d %d and %d words are used", gen, told.Kind, before, told.N)
			}
			last[told.Kind] = told.N
		}
	}
}

func TestP8_6Filled(t *testing.T) {
	for seed := range uint64(12) {
		s, _ := space.New(64)
		w := wild{rand.New(rand.NewPCG(86, seed))}
		for range 1500 {
			kind := w.near(4)
			s.Alloc(w.near(5), kind, w.size(kind))
			filled(t, s)
		}
	}
}

func TestP8_7GivenBack(t *testing.T) {
	for _, b := range []both{fresh(t, 8), all(t), used(t, 8), used(t, 64), used(t, 1024)} {
		for _, n := range b.Taken() {
			b.give(t, n)
		}
		for gen := range 5 {
			for kind := range 4 {
				if n, ok := b.Current(gen, kind); n != 0 || ok {
					t.Errorf("Current(%d, %d): %d, %v", gen, kind, n, ok)
				}
			}
		}
		if b.Words() != 0 || b.Free() != b.Limit() || len(b.Taken()) > 0 {
			t.Errorf("%d words, %d of %d free, %v taken", b.Words(), b.Free(), b.Limit(), b.Taken())
		}
		b.check(t)
		if addr := b.alloc(t, 3, 1, 2); addr != 0 {
			t.Errorf("what is put then is at %d", addr)
		}
	}
}

// Spaces and copies of them, by calls without a plan: after each call all of
// them are as they are to be.
func TestP8_3Wild(t *testing.T) {
	for seed := range uint64(4) {
		w := wild{rand.New(rand.NewPCG(87, seed))}
		l := []both{fresh(t, 8+w.IntN(16))}
		for range 1500 {
			if w.IntN(50) == 0 {
				l = append(l, l[w.IntN(len(l))].copy(t))
			}
			if len(l) > 3 {
				l = slices.Delete(l, 0, 1)
			}
			w.one(t, l[w.IntN(len(l))])
			for _, b := range l {
				b.check(t)
			}
		}
	}
}
