package space_test

import (
	"slices"
	"testing"

	"moraine/api"
	"moraine/sample"
	"moraine/space"
)

func TestP8_1New(t *testing.T) {
	for _, limit := range []int{8, 9, 10, 63, 64, 512, 1023, 1024} {
		b := fresh(t, limit)
		if b.Limit() != limit || b.Free() != limit || len(b.Taken()) > 0 || b.Words() != 0 {
			t.Errorf("New(%d): %d of %d free, %v taken, %d words", limit, b.Free(), b.Limit(), b.Taken(), b.Words())
		}
		b.check(t)
	}
}

func TestP8_1NewWrong(t *testing.T) {
	for _, limit := range append(sample.Far(), -8, -1, 0, 1, 6, 7, 1025, 1026, 2048) {
		if s, e := space.New(limit); s != nil || e != api.ErrArg {
			t.Errorf("New(%d): %v, %d", limit, s != nil, e)
		}
	}
}

func TestP8_1Apart(t *testing.T) {
	a, b := fresh(t, 8), fresh(t, 8)
	a.alloc(t, 1, 2, 7)
	a.write(t, 3, 9)
	b.check(t)
	b.alloc(t, 0, 0, 2)
	b.fresh()
	a.check(t)
}

// The calls of the memory do what they do in layer 7.
func TestP8_1Memory(t *testing.T) {
	b := fresh(t, 8)
	b.alloc(t, 0, api.KindPair, 2)
	b.alloc(t, 3, api.KindObject, 40)
	b.alloc(t, 1, api.KindData, 63)
	b.give(t, 1)
	b.check(t)
	for addr := -70; addr < 600; addr++ {
		b.write(t, addr, api.Word(addr)<<32|5)
	}
	b.check(t)
	for n := -1; n < 9; n++ {
		for card := -1; card < 5; card++ {
			for mark := -1; mark < 7; mark++ {
				b.mark(t, n, card, mark)
			}
			b.mark(t, n, card, (n+card)&3)
		}
	}
	b.check(t)
	if w, e := b.Read(1); w != 1<<32|5 || e != api.OK {
		t.Errorf("Read(1): %d, %d", w, e)
	}
	if s, ok := b.Seg(2); s.Gen != 1 || s.Kind != api.KindData || s.N != 63 || !ok {
		t.Errorf("Seg(2): %+v, %v", s, ok)
	}
	if !slices.Equal(b.Taken(), []int{0, 2}) || !slices.Equal(b.Taken(1, 3, 1), []int{2}) || b.Free() != 6 || b.Limit() != 8 {
		t.Errorf("%v taken, %d of %d free", b.Taken(), b.Free(), b.Limit())
	}
}

// Every generation and kind has a segment of its own.
func TestP8_2Alloc(t *testing.T) {
	b := fresh(t, 20)
	for round := range 3 {
		for gen := range 5 {
			for kind := range 4 {
				addr, e := b.Alloc(gen, kind, 2)
				if want := 64*(4*gen+kind) + 2*round; addr != want || e != api.OK {
					t.Errorf("Alloc(%d, %d, 2): %d, %d; want %d", gen, kind, addr, e, want)
				}
				b.want.Alloc(gen, kind, 2)
				b.check(t)
			}
		}
	}
	if b.Free() != 0 {
		t.Errorf("%d are free", b.Free())
	}
}

// wrong are three arguments of Alloc that may not be.
func wrong() [][3]int {
	var l [][3]int
	for _, n := range append(sample.Far(), -2, -1) {
		l = append(l, [3]int{n, 0, 2}, [3]int{n, 3, 63}, [3]int{0, n, 2}, [3]int{4, n, 1}, [3]int{n, n, n}, [3]int{n, n, 2})
		for kind := range 4 {
			l = append(l, [3]int{0, kind, n}, [3]int{4, kind, n})
		}
	}
	for gen := range 5 {
		for _, n := range []int{0, 1, 3, 4, 62, 63, 64, 65} {
			l = append(l, [3]int{gen, 0, n}, [3]int{gen, 1, n})
		}
		for _, n := range []int{0, 64, 65, 66, 128} {
			l = append(l, [3]int{gen, 2, n}, [3]int{gen, 3, n})
		}
		for _, n := range []int{1, 2, 63} {
			l = append(l, [3]int{gen, 4, n}, [3]int{gen, 5, n}, [3]int{5 + gen, 2, n})
		}
	}
	return append(l, [3]int{5, 0, 2}, [3]int{5, 1, 2}, [3]int{6, 3, 2})
}

func TestP8_2Wrong(t *testing.T) {
	full := fresh(t, 8)
	for n := range 8 {
		full.alloc(t, n%5, 2, 63)
	}
	for _, b := range []both{fresh(t, 8), used(t, 8), full, fresh(t, 1024)} {
		for _, c := range wrong() {
			if addr, e := b.Alloc(c[0], c[1], c[2]); addr != 0 || e != api.ErrArg {
				t.Errorf("Alloc(%d, %d, %d): %d, %d", c[0], c[1], c[2], addr, e)
			}
		}
		b.check(t)
	}
}

func TestP8_2Sizes(t *testing.T) {
	for _, kind := range []int{api.KindObject, api.KindData} {
		for n := 1; n <= 63; n++ {
			b := fresh(t, 8)
			b.alloc(t, 4, kind, 1)
			addr := b.alloc(t, 4, kind, n)
			if addr != 1 {
				t.Errorf("%d words behind one: %d", n, addr)
			}
			b.check(t)
		}
	}
}

// A current segment has just so many words left, one less, one more.
func TestP8_2Left(t *testing.T) {
	for n := 1; n <= 63; n++ {
		for _, first := range []int{63 - n, 64 - n, 65 - n} {
			if first < 1 || first > 63 {
				continue
			}
			b := fresh(t, 8)
			b.alloc(t, 0, api.KindObject, first)
			b.alloc(t, 0, api.KindData, 1)
			want := first
			if first > 64-n {
				want = 128
			}
			if addr := b.alloc(t, 0, api.KindObject, n); addr != want {
				t.Errorf("%d words behind %d: %d; want %d", n, first, addr, want)
			}
			b.check(t)
			b.alloc(t, 0, api.KindObject, 1)
			b.check(t)
		}
	}
}

// Into what is left of a segment that is current no more nothing is put.
func TestP8_2LeftBehind(t *testing.T) {
	b := fresh(t, 8)
	b.alloc(t, 0, api.KindObject, 40)
	b.alloc(t, 0, api.KindObject, 30)
	for range 34 {
		b.alloc(t, 0, api.KindObject, 1)
	}
	if s, _ := b.Seg(0); s.N != 40 {
		t.Errorf("the first segment has %d words", s.N)
	}
	if addr := b.alloc(t, 0, api.KindObject, 1); addr != 128 {
		t.Errorf("the next one is put at %d", addr)
	}
	b.check(t)
}

func TestP8_2Pairs(t *testing.T) {
	for _, kind := range []int{api.KindPair, api.KindWeak} {
		b := fresh(t, 8)
		for i := range 8 * 32 {
			if addr, e := b.Alloc(2, kind, 2); addr != 2*i || e != api.OK {
				t.Fatalf("the pair %d: %d, %d", i, addr, e)
			}
			b.want.Alloc(2, kind, 2)
		}
		for range 3 {
			if addr, e := b.Alloc(2, kind, 2); addr != 0 || e != api.ErrFull {
				t.Errorf("one more: %d, %d", addr, e)
			}
		}
		b.check(t)
	}
}

// Where no segment is free, there is room in the current ones alone.
func TestP8_2Full(t *testing.T) {
	b := fresh(t, 8)
	for n := range 7 {
		b.alloc(t, 0, api.KindObject, 63)
		if n < 6 {
			b.fresh(0)
		}
	}
	b.alloc(t, 1, api.KindPair, 2)
	for _, c := range [][3]int{{0, 0, 2}, {0, 1, 2}, {1, 1, 2}, {1, 2, 1}, {0, 2, 2}, {0, 2, 63}, {4, 3, 1}} {
		if addr, e := b.Alloc(c[0], c[1], c[2]); addr != 0 || e != api.ErrFull {
			t.Errorf("Alloc(%d, %d, %d): %d, %d", c[0], c[1], c[2], addr, e)
		}
		b.check(t)
	}
	// An Alloc that found no room leaves the current one as it was.
	if addr := b.alloc(t, 0, api.KindObject, 1); addr != 64*6+63 {
		t.Errorf("one word: %d", addr)
	}
	for i := range 31 {
		if addr := b.alloc(t, 1, api.KindPair, 2); addr != 64*7+2+2*i {
			t.Errorf("a pair: %d", addr)
		}
	}
	for _, c := range [][3]int{{0, 2, 1}, {1, 0, 2}} {
		if addr, e := b.Alloc(c[0], c[1], c[2]); addr != 0 || e != api.ErrFull {
			t.Errorf("Alloc(%d, %d, %d): %d, %d", c[0], c[1], c[2], addr, e)
		}
	}
	b.check(t)
	b.fresh()
	if addr, e := b.Alloc(1, 0, 2); addr != 0 || e != api.ErrFull {
		t.Errorf("with none current: %d, %d", addr, e)
	}
	b.give(t, 3)
	if addr := b.alloc(t, 1, 0, 2); addr != 192 {
		t.Errorf("where one was given: %d", addr)
	}
	b.check(t)
}

// What is put is 0, in a segment that was used before, too.
func TestP8_2AllAre0(t *testing.T) {
	b := fresh(t, 8)
	for round := range 3 {
		for i := range 8 {
			addr := b.alloc(t, 0, api.KindObject, 40)
			for place := range 40 {
				if w, e := b.Read(addr + place); w != 0 || e != api.OK {
					t.Errorf("round %d, the word %d of %d: %d, %d", round, place, i, w, e)
				}
				b.write(t, addr+place, ^api.Word(0))
			}
		}
		for n := range 8 {
			b.give(t, n)
		}
	}
}

func TestP8_3Current(t *testing.T) {
	b := fresh(t, 8)
	for gen := -1; gen <= 5; gen++ {
		for kind := -1; kind <= 4; kind++ {
			if n, ok := b.Current(gen, kind); n != 0 || ok {
				t.Errorf("Current(%d, %d), where nothing is: %d, %v", gen, kind, n, ok)
			}
		}
	}
	for want, at := range [][2]int{{0, 0}, {4, 3}, {0, 3}, {2, 1}} {
		b.alloc(t, at[0], at[1], 2)
		if n, ok := b.Current(at[0], at[1]); n != want || !ok {
			t.Errorf("Current(%d, %d): %d, %v; want %d", at[0], at[1], n, ok, want)
		}
		b.check(t)
	}
	for _, n := range append(sample.Far(), -1, 5, 6, 16, 20) {
		for _, at := range [][2]int{{n, 0}, {n, 3}, {n, n}, {0, n}, {4, n}, {n, -1}} {
			if n, ok := b.Current(at[0], at[1]); n != 0 || ok {
				t.Errorf("Current(%d, %d): %d, %v", at[0], at[1], n, ok)
			}
		}
	}
	// Neighbours in a flat table of generations and kinds.
	for _, at := range [][2]int{{1, -4}, {1, -1}, {0, 4}, {3, 7}, {5, -1}, {-1, 4}, {0, 19}} {
		if n, ok := b.Current(at[0], at[1]); n != 0 || ok {
			t.Errorf("Current(%d, %d): %d, %v", at[0], at[1], n, ok)
		}
	}
}

// all is a space in which all generations and kinds have a current segment.
func all(t *testing.T) both {
	t.Helper()
	b := fresh(t, 64)
	for gen := range 5 {
		for kind := range 4 {
			b.alloc(t, gen, kind, 2)
			if kind > 1 {
				b.alloc(t, gen, kind, 1+7*gen+kind)
			}
		}
	}
	return b
}

// rows are rows of generations, of such as there are not, of some that are named
// more than once.
func rows() [][]int {
	l := [][]int{nil, {}, {0}, {1}, {2}, {3}, {4}, {5}, {-1}, {0, 4}, {4, 0}, {1, 2, 3}, {3, 3}, {2, 0, 2, 0},
		{0, 1, 2, 3, 4}, {4, 3, 2, 1, 0, 4}, {-1, 5}, {5, 3, -1}, {6, 7, 64}, {-1, 0}, sample.Far(), append(sample.Far(), 3)}
	return append(l, slices.Repeat([]int{1, -9, 77, 4}, 50_000))
}

func TestP8_3Fresh(t *testing.T) {
	for _, gens := range rows() {
		b := all(t)
		b.Fresh(gens...)
		for gen := range 5 {
			for kind := range 4 {
				n, ok := b.Current(gen, kind)
				gone := len(gens) == 0 || slices.Contains(gens, gen)
				if want := 4*gen + kind; gone && (n != 0 || ok) || !gone && (n != want || !ok) {
					t.Errorf("Current(%d, %d): %d, %v", gen, kind, n, ok)
				}
			}
		}
		b.want.Fresh(gens...)
		b.check(t)
		for gen := range 5 {
			for kind := range 4 {
				b.alloc(t, gen, kind, 2)
			}
		}
		b.check(t)
		b.fresh(gens...)
		b.fresh(gens...)
		b.check(t)
	}
}

func TestP8_3GiveCurrent(t *testing.T) {
	for given := range 20 {
		b := all(t)
		b.give(t, given)
		if n, ok := b.Current(given/4, given%4); n != 0 || ok {
			t.Errorf("what was given, %d, is current: %d, %v", given, n, ok)
		}
		b.check(t)
		if e := b.Give(given); e != api.ErrNone {
			t.Errorf("Give(%d), where it is free: %d", given, e)
		}
		b.check(t)
		if addr := b.alloc(t, given/4, given%4, 2); addr != 64*given {
			t.Errorf("what is put then is at %d", addr)
		}
		b.check(t)
	}
}

// Of the segments of a generation and kind the last one alone is current.
func TestP8_3GiveOther(t *testing.T) {
	b := fresh(t, 8)
	for range 3 {
		b.alloc(t, 0, api.KindObject, 60)
	}
	b.alloc(t, 0, api.KindData, 60)
	b.give(t, 1)
	if n, ok := b.Current(0, api.KindObject); n != 2 || !ok {
		t.Errorf("Current: %d, %v", n, ok)
	}
	b.check(t)
	if addr := b.alloc(t, 0, api.KindObject, 4); addr != 128+60 {
		t.Errorf("what is put then is at %d", addr)
	}
	b.alloc(t, 0, api.KindObject, 60)
	if n, _ := b.Current(0, api.KindObject); n != 1 {
		t.Errorf("Current: %d", n)
	}
	// 1 is current now, and 2, which was, is not.
	b.give(t, 2)
	b.check(t)
	b.give(t, 1)
	b.check(t)
}

func TestP8_3GiveWrong(t *testing.T) {
	for _, b := range []both{fresh(t, 8), all(t), used(t, 8)} {
		for _, n := range append(sample.Far(), -1, b.Limit(), b.Limit()+1) {
			if e := b.Give(n); e != api.ErrNone {
				t.Errorf("Give(%d): %d", n, e)
			}
		}
		for n := range b.Limit() {
			if _, ok := b.want.Seg(n); !ok {
				if e := b.Give(n); e != api.ErrNone {
					t.Errorf("Give(%d): %d", n, e)
				}
			}
		}
		b.check(t)
	}
}

// A segment is given, and taken anew for another generation and kind.
func TestP8_3GivenAnew(t *testing.T) {
	for from := range 20 {
		for to := range 20 {
			b := fresh(t, 8)
			b.alloc(t, from/4, from%4, 2)
			b.give(t, 0)
			if addr := b.alloc(t, to/4, to%4, 2); addr != 0 {
				t.Errorf("from %d to %d: %d", from, to, addr)
			}
			b.check(t)
			addr := b.alloc(t, from/4, from%4, 2)
			if from == to && addr != 2 || from != to && addr != 64 {
				t.Errorf("from %d to %d, and %d: %d", from, to, from, addr)
			}
			b.check(t)
			b.give(t, 0)
			b.check(t)
		}
	}
}

func TestP8_3Words(t *testing.T) {
	a, b := all(t), all(t)
	b.fresh(1)
	b.alloc(t, 1, 3, 63)
	b.give(t, 19)
	b.give(t, 0)
	for _, c := range []struct {
		both
		gens []int
		want int
	}{
		// Of the generation g: 2, 2, 2 + 1 + 7g + 2, 2 + 1 + 7g + 3, which is 15 + 14g.
		{a, nil, 215}, {a, []int{0}, 15}, {a, []int{4}, 71}, {a, []int{4, 4}, 71}, {a, []int{1, 2}, 72},
		{a, []int{5, -1}, 0}, {a, []int{3, 5}, 57}, {a, []int{0, 1, 2, 3, 4, 0}, 215},
		{b, nil, 215 + 63 - 34 - 2}, {b, []int{1}, 92}, {b, []int{4}, 37}, {b, []int{0, 4}, 50},
	} {
		if n := c.Words(c.gens...); n != c.want {
			t.Errorf("Words(%v): %d; want %d", c.gens, n, c.want)
		}
	}
	for _, gens := range rows() {
		a.words(t, gens...)
		b.words(t, gens...)
	}
	a.check(t)
	b.check(t)
}

// The rows that are handed in are neither changed nor kept.
func TestP8_3HandedIn(t *testing.T) {
	b := all(t)
	gens := []int{3, -7, 1, 3, 5, 77, 78}[:5]
	b.fresh(gens...)
	b.words(t, gens...)
	if !slices.Equal(gens[:7], []int{3, -7, 1, 3, 5, 77, 78}) {
		t.Errorf("what was handed in became %v", gens[:7])
	}
	gens[0] = 4
	b.check(t)
	b.alloc(t, 4, 0, 2)
	b.check(t)
}

func TestExamples(t *testing.T) {
	s, e := space.New(8)
	if e != api.OK {
		t.Fatalf("New: %d", e)
	}
	put := func(gen, kind, n, want int, wanted api.Errno) {
		t.Helper()
		if addr, e := s.Alloc(gen, kind, n); addr != want || e != wanted {
			t.Errorf("Alloc(%d, %d, %d): %d, %d; want %d, %d", gen, kind, n, addr, e, want, wanted)
		}
	}
	put(0, api.KindPair, 2, 0, api.OK)
	put(0, api.KindPair, 2, 2, api.OK)
	put(0, api.KindObject, 40, 64, api.OK)
	put(0, api.KindObject, 30, 128, api.OK)
	if n, ok := s.Current(0, api.KindObject); n != 2 || !ok || s.Words(0) != 74 {
		t.Errorf("Current: %d, %v; Words: %d", n, ok, s.Words(0))
	}
	s.Fresh(0)
	put(0, api.KindPair, 2, 192, api.OK)
	put(0, api.KindPair, 3, 0, api.ErrArg)
	put(0, api.KindObject, 64, 0, api.ErrArg)
	put(5, api.KindPair, 2, 0, api.ErrArg)
}
