package seg_test

import (
	"math"
	"slices"
	"testing"

	"moraine/api"
	"moraine/sample"
	"moraine/seg"
)

func TestP7_1New(t *testing.T) {
	for limit := range 1025 {
		if limit >= 8 {
			b := fresh(t, limit)
			if b.Limit() != limit || b.Free() != limit || len(b.Taken()) > 0 {
				t.Errorf("New(%d): %d of %d free, %v taken", limit, b.Free(), b.Limit(), b.Taken())
			}
		}
	}
	for _, limit := range []int{8, 9, 64, 1023, 1024} {
		fresh(t, limit).check(t)
	}
}

func TestP7_1NewWrong(t *testing.T) {
	for _, limit := range append(sample.Far(), -8, -1, 0, 1, 6, 7, 1025, 1026, 2048) {
		if m, e := seg.New(limit); m != nil || e != api.ErrArg {
			t.Errorf("New(%d): %v, %d", limit, m != nil, e)
		}
	}
}

func TestP7_1Apart(t *testing.T) {
	a, b := fresh(t, 8), fresh(t, 8)
	a.take(t, 1, 2)
	a.bump(t, 0, 3)
	b.check(t)
	b.take(t, 3, 0)
	b.bump(t, 0, 1)
	b.write(t, 0, 77)
	b.mark(t, 0, 0, 1)
	a.check(t)
}

func TestP7_2Take(t *testing.T) {
	b := fresh(t, 20)
	for gen := range 5 {
		for kind := range 4 {
			n := b.take(t, gen, kind)
			s, ok := b.Seg(n)
			if want := (api.Segment{Gen: gen, Kind: kind, Cards: [4]int{5, 5, 5, 5}}); n != 4*gen+kind || s != want || !ok {
				t.Errorf("Take(%d, %d): %d, which is %+v, %v", gen, kind, n, s, ok)
			}
			b.check(t)
		}
	}
}

func TestP7_2TakeWrong(t *testing.T) {
	some, full := fresh(t, 8), fresh(t, 8)
	some.take(t, 2, 1)
	for range 8 {
		full.take(t, 1, 1)
	}
	for _, b := range []both{fresh(t, 8), some, full} {
		for _, wrong := range append(sample.Far(), -2, -1, 5, 6, 7, 8) {
			for _, c := range [][2]int{{wrong, 0}, {wrong, 3}, {wrong, wrong}, {wrong, -1}, {0, wrong}, {4, wrong}, {-1, wrong}} {
				if n, e := b.Take(c[0], c[1]); n != 0 || e != api.ErrArg {
					t.Errorf("Take(%d, %d): %d, %d", c[0], c[1], n, e)
				}
			}
		}
		if n, e := b.Take(0, 4); n != 0 || e != api.ErrArg {
			t.Errorf("Take(0, 4): %d, %d", n, e)
		}
		b.check(t)
	}
}

func TestP7_2Full(t *testing.T) {
	for _, limit := range []int{8, 9, 1024} {
		b := fresh(t, limit)
		for want := range limit {
			if n, e := b.Take(want%5, want%4); n != want || e != api.OK || b.Free() != limit-1-want {
				t.Fatalf("the Take behind %d: %d, %d, %d free", want, n, e, b.Free())
			}
			b.want.Take(want%5, want%4)
		}
		for range 2 {
			if n, e := b.Take(0, 0); n != 0 || e != api.ErrFull {
				t.Errorf("Take of a full memory of %d: %d, %d", limit, n, e)
			}
		}
		b.check(t)
		b.give(t, limit/2)
		if n, e := b.Take(4, 3); n != limit/2 || e != api.OK {
			t.Errorf("Take, where just %d is free: %d, %d", limit/2, n, e)
		}
	}
}

func TestP7_2Give(t *testing.T) {
	for given := range 8 {
		b := fresh(t, 8)
		for range 8 {
			b.take(t, 1, 1)
		}
		if e := b.Give(given); e != api.OK {
			t.Errorf("Give(%d): %d", given, e)
		}
		b.want.Give(given)
		b.check(t)
		if e := b.Give(given); e != api.ErrNone {
			t.Errorf("Give(%d) of a free one: %d", given, e)
		}
		b.check(t)
	}
}

func TestP7_2GiveWrong(t *testing.T) {
	for _, b := range []both{fresh(t, 8), used(t, 8), used(t, 64)} {
		for _, wrong := range append(sample.Far(), -1, b.Limit(), b.Limit()+1) {
			if e := b.Give(wrong); e != api.ErrNone {
				t.Errorf("Give(%d): %d", wrong, e)
			}
		}
		b.check(t)
	}
}

// All free segments are taken by their numbers, whatever the order in which
// they were given.
func TestP7_2GivenInAnyOrder(t *testing.T) {
	for _, given := range [][]int{{3, 1, 5}, {1, 3, 5}, {5, 3, 1}, {7, 0}, {0, 7}, {6}, {0, 1, 2, 3, 4, 5, 6, 7}, {7, 6, 5, 4, 3, 2, 1, 0}} {
		b := fresh(t, 8)
		for range 8 {
			b.take(t, 0, 0)
		}
		for _, n := range given {
			b.give(t, n)
		}
		for _, want := range slices.Sorted(slices.Values(given)) {
			if n, e := b.Take(1, 2); n != want || e != api.OK {
				t.Errorf("Take, when %v were given: %d, %d; want %d", given, n, e, want)
			}
			b.want.Take(1, 2)
		}
		b.check(t)
	}
}

// A given segment is below the one taken last, but above another that is free.
func TestP7_2GivenBetween(t *testing.T) {
	b := fresh(t, 9)
	for range 6 {
		b.take(t, 0, 0)
	}
	b.give(t, 4)
	b.give(t, 2)
	for _, want := range []int{2, 4, 6, 7, 8} {
		if n := b.take(t, 3, 3); n != want {
			t.Errorf("Take: %d; want %d", n, want)
		}
	}
	b.check(t)
}

func TestP7_2TakenAnew(t *testing.T) {
	b := fresh(t, 8)
	b.take(t, 0, 1)
	b.take(t, 3, 2)
	b.bump(t, 1, 64)
	for addr := 64; addr < 128; addr++ {
		b.write(t, addr, math.MaxUint64)
	}
	for card := range 4 {
		b.mark(t, 1, card, card)
	}
	b.give(t, 1)
	if s, ok := b.Seg(1); s != (api.Segment{}) || ok {
		t.Errorf("a free segment is %+v, %v", s, ok)
	}
	b.check(t)
	b.take(t, 4, 0)
	if s, ok := b.Seg(1); s != (api.Segment{Gen: 4, Cards: [4]int{5, 5, 5, 5}}) || !ok {
		t.Errorf("taken anew it is %+v, %v", s, ok)
	}
	b.check(t)
	for range 64 {
		b.bump(t, 1, 1)
		b.check(t)
	}
	if w, e := b.Read(100); w != 0 || e != api.OK {
		t.Errorf("a word that is used anew: %d, %d", w, e)
	}
}

func TestP7_2Seg(t *testing.T) {
	b := eleven(t)
	for _, wrong := range append(sample.Far(), -1, 9, 10, 11, 12) {
		if s, ok := b.Seg(wrong); s != (api.Segment{}) || ok {
			t.Errorf("Seg(%d): %+v, %v", wrong, s, ok)
		}
	}
	for n := range 9 {
		b.bump(t, n, 1+7*n)
		b.mark(t, n, n%4, n%5)
		b.is(t, n)
		// What is answered is no part of the memory.
		s, _ := b.Seg(n)
		s.Gen, s.Kind, s.N, s.Cards[0] = 9, 9, 9, 9
		b.is(t, n)
	}
}

// eleven is a memory in which 0 to 8 were taken, 2, 0 and 5 given, and 0, 2 and
// 5 taken anew.
func eleven(t *testing.T) both {
	b := fresh(t, 11)
	for n := range 9 {
		b.take(t, n%5, n%4)
	}
	for _, n := range []int{2, 0, 5} {
		b.give(t, n)
	}
	for range 3 {
		b.take(t, 3, 1)
	}
	return b
}

func TestP7_2Taken(t *testing.T) {
	b := eleven(t)
	for _, c := range []struct {
		gens, want []int
	}{
		{nil, []int{1, 3, 4, 6, 7, 8, 0, 2, 5}},
		{[]int{}, []int{1, 3, 4, 6, 7, 8, 0, 2, 5}},
		{[]int{0}, nil},
		{[]int{1}, []int{1, 6}},
		{[]int{2}, []int{7}},
		{[]int{3}, []int{3, 8, 0, 2, 5}},
		{[]int{4}, []int{4}},
		{[]int{3, 1}, []int{1, 3, 6, 8, 0, 2, 5}},
		{[]int{1, 3}, []int{1, 3, 6, 8, 0, 2, 5}},
		{[]int{1, 1}, []int{1, 6}},
		{[]int{4, 2, 4, 2, 4}, []int{4, 7}},
		{[]int{0, 1, 2, 3, 4}, []int{1, 3, 4, 6, 7, 8, 0, 2, 5}},
		{[]int{5}, nil},
		{[]int{-1}, nil},
		{[]int{-1, 5, 6, 64}, nil},
		{[]int{5, 2, -1}, []int{7}},
		{sample.Far(), nil},
		{append(sample.Far(), 4), []int{4}},
	} {
		if l := b.Taken(c.gens...); !slices.Equal(l, c.want) {
			t.Errorf("Taken(%v): %v; want %v", c.gens, l, c.want)
		}
	}
	b.check(t)
}

// Every row of generations, and of such as there are not, of up to four.
func TestP7_2TakenOfAll(t *testing.T) {
	b := eleven(t)
	rows := [][]int{nil}
	for range 4 {
		var longer [][]int
		for _, row := range rows {
			for gen := -1; gen <= 5; gen++ {
				gens := append(slices.Clone(row), gen)
				b.tells(t, gens...)
				longer = append(longer, gens)
			}
		}
		rows = longer
	}
	many := slices.Repeat([]int{7, 1, -5}, 100_000)
	b.tells(t, many...)
	b.tells(t, many[:1]...)
}

func TestP7_2TakenMemory(t *testing.T) {
	b := eleven(t)
	for _, gens := range [][]int{nil, {3}, {1, 3}, {0, 1, 2, 3, 4}} {
		first, second := b.Taken(gens...), b.Taken(gens...)
		for i := range first[:cap(first)] {
			first[:cap(first)][i] = 99
		}
		if !slices.Equal(second, b.want.Taken(gens...)) {
			t.Errorf("Taken(%v) became %v with another answer", gens, second)
		}
		b.check(t)
		b.take(t, 1, 1)
		if !slices.Equal(first, slices.Repeat([]int{99}, len(first))) {
			t.Errorf("an answer became %v with the memory", first)
		}
		b.give(t, 9)
	}
}

func TestP7_2TakenIsHandedIn(t *testing.T) {
	b := eleven(t)
	gens := []int{3, -7, 1, 3, 5, 77, 78}[:5]
	l := b.Taken(gens...)
	if !slices.Equal(gens[:7], []int{3, -7, 1, 3, 5, 77, 78}) {
		t.Errorf("what was handed in became %v", gens[:7])
	}
	gens[0] = 4
	if !slices.Equal(l, []int{1, 3, 6, 8, 0, 2, 5}) {
		t.Errorf("%v changed with what was handed in", l)
	}
	b.check(t)
}

func TestP7_3Bump(t *testing.T) {
	for n := 1; n <= 64; n++ {
		b := fresh(t, 8)
		b.take(t, 0, 0)
		b.take(t, 0, 1)
		for used := 0; used+n <= 64; used += n {
			addr, e := b.Bump(1, n)
			s, _ := b.Seg(1)
			if addr != 64+used || e != api.OK || s.N != used+n {
				t.Errorf("Bump(1, %d) behind %d: %d, %d, and %d are used", n, used, addr, e, s.N)
			}
			b.want.Bump(1, n)
			b.check(t)
		}
		if addr, e := b.Bump(1, n); addr != 0 || e != api.ErrFull {
			t.Errorf("Bump(1, %d), where there is no room: %d, %d", n, addr, e)
		}
		b.check(t)
	}
}

// Where so many are used, so many fit, and one more does not.
func TestP7_3Fits(t *testing.T) {
	for used := 1; used <= 64; used++ {
		b := fresh(t, 8)
		b.take(t, 4, 3)
		b.bump(t, 0, used)
		for _, n := range []int{65 - used, 66 - used, 64, 65, 128, 256, 1 << 16, 1<<32 + 1, math.MaxInt - used, math.MaxInt - used + 1, math.MaxInt} {
			if addr, e := b.Bump(0, n); addr != 0 || e != api.ErrFull {
				t.Errorf("Bump(0, %d) behind %d: %d, %d", n, used, addr, e)
			}
		}
		b.check(t)
		if used < 64 {
			if addr, e := b.Bump(0, 64-used); addr != used || e != api.OK {
				t.Errorf("Bump(0, %d) behind %d: %d, %d", 64-used, used, addr, e)
			}
			b.want.Bump(0, 64-used)
			b.check(t)
		}
	}
}

func TestP7_3Wrong(t *testing.T) {
	b := fresh(t, 8)
	b.take(t, 0, 0)
	b.take(t, 1, 2)
	b.take(t, 2, 3)
	b.bump(t, 1, 5)
	b.bump(t, 2, 64)
	b.take(t, 2, 3)
	b.give(t, 3)
	for _, n := range []int{0, -1, -2, -5, -64, math.MinInt, math.MinInt + 5} {
		for seg := range 3 {
			if addr, e := b.Bump(seg, n); addr != 0 || e != api.ErrArg {
				t.Errorf("Bump(%d, %d): %d, %d", seg, n, addr, e)
			}
		}
	}
	for _, n := range []int{0, -1, 1, 2, 64, 65, math.MinInt, math.MaxInt} {
		for _, none := range append(sample.Far(), -1, 3, 7, 8, 9) {
			if addr, e := b.Bump(none, n); addr != 0 || e != api.ErrNone {
				t.Errorf("Bump(%d, %d): %d, %d", none, n, addr, e)
			}
		}
	}
	b.check(t)
}

func TestP7_3AllAre0(t *testing.T) {
	b := fresh(t, 8)
	b.take(t, 0, 2)
	for range 4 {
		addr, e := b.Bump(0, 16)
		for place := range 16 {
			if w, f := b.Read(addr + place); w != 0 || e != api.OK || f != api.OK {
				t.Errorf("the word %d behind %d: %d, %d, %d", place, addr, w, e, f)
			}
			b.Write(addr+place, 5)
		}
	}
}

func TestP7_4ReadWrite(t *testing.T) {
	b := fresh(t, 8)
	b.take(t, 0, 0)
	b.take(t, 0, 2)
	b.take(t, 0, 3)
	b.give(t, 1)
	b.bump(t, 0, 2)
	b.bump(t, 2, 64)
	for addr := -200; addr < 800; addr++ {
		there := addr == 0 || addr == 1 || addr >= 128 && addr < 192
		want := api.ErrAddr
		if there {
			want = api.OK
		}
		if e := b.Write(addr, api.Word(1000+addr)); e != want {
			t.Errorf("Write(%d): %d", addr, e)
		}
		w, e := b.Read(addr)
		if e != want || there && w != api.Word(1000+addr) || !there && w != 0 {
			t.Errorf("Read(%d): %d, %d", addr, w, e)
		}
		b.want.Write(addr, api.Word(1000+addr))
	}
	b.check(t)
}

func TestP7_4Wrong(t *testing.T) {
	for _, limit := range []int{8, 1024} {
		b := fresh(t, limit)
		for n := range limit {
			b.take(t, 0, n%4)
			b.bump(t, n, 64)
		}
		for _, addr := range append(sample.Far(), -1, -63, -64, -65, 64*limit, 64*limit+1, 64*limit+63) {
			w, e := b.Read(addr)
			if f := b.Write(addr, 3); w != 0 || e != api.ErrAddr || f != api.ErrAddr {
				t.Errorf("Read(%d): %d, %d; Write: %d", addr, w, e, f)
			}
		}
		b.check(t)
		b.write(t, 64*limit-1, 5)
		b.write(t, 0, 4)
		b.check(t)
	}
}

func TestP7_4AnyBits(t *testing.T) {
	b := fresh(t, 8)
	words := []api.Word{0, 1, math.MaxUint64, math.MaxUint64 - 1, 1 << 63, 1<<63 - 1, 0x0123456789abcdef, api.False, api.Nil, api.Unbound, 1<<32 - 1, 1 << 32}
	for bit := range 64 {
		words = append(words, 1<<bit, 1<<bit-1, ^api.Word(1<<bit))
	}
	for kind := range 4 {
		n := b.take(t, kind, kind)
		b.bump(t, n, 3)
		for _, w := range words {
			for place := range 3 {
				addr := 64*n + place
				e := b.Write(addr, w)
				if got, f := b.Read(addr); got != w || e != api.OK || f != api.OK {
					t.Errorf("%d at %d became %d (%d, %d)", w, addr, got, e, f)
				}
			}
		}
	}
}

func TestP7_4Mark(t *testing.T) {
	b := fresh(t, 8)
	for n := range 5 {
		b.take(t, n, n%4)
		b.bump(t, n, 1+15*n)
	}
	for n := range 5 {
		for card := range 4 {
			for _, mark := range []int{5, 0, 1, 2, 3, 4, 5, 3, 0, 4} {
				if e := b.Mark(n, card, mark); e != api.OK {
					t.Errorf("Mark(%d, %d, %d): %d", n, card, mark, e)
				}
				if s, _ := b.Seg(n); s.Cards[card] != mark {
					t.Errorf("Mark(%d, %d, %d) made %v", n, card, mark, s.Cards)
				}
				b.want.Mark(n, card, mark)
				b.check(t)
			}
			b.mark(t, n, card, card+n%3)
		}
	}
	b.check(t)
}

// No other call changes a mark.
func TestP7_4MarksStay(t *testing.T) {
	b := fresh(t, 8)
	b.take(t, 4, 0)
	for card := range 4 {
		b.mark(t, 0, card, 3-card)
	}
	b.take(t, 0, 0)
	b.bump(t, 0, 64)
	b.write(t, 17, 64<<3|api.TagPair)
	b.read(t, 17)
	b.give(t, 1)
	if s, _ := b.Seg(0); s.Cards != [4]int{3, 2, 1, 0} {
		t.Errorf("the marks became %v", s.Cards)
	}
}

func TestP7_4MarkWrong(t *testing.T) {
	b := fresh(t, 8)
	for n := range 4 {
		b.take(t, n, n)
		b.mark(t, n, n, n)
	}
	b.give(t, 2)
	wrongCard := append(sample.Far(), -1, 4, 5, 16, 63)
	wrongMark := append(sample.Far(), -1, 6, 7, 8)
	for _, n := range []int{0, 1, 3} {
		for _, card := range wrongCard {
			for _, mark := range []int{0, 5, 6, -1} {
				if e := b.Mark(n, card, mark); e != api.ErrArg {
					t.Errorf("Mark(%d, %d, %d): %d", n, card, mark, e)
				}
			}
		}
		for _, mark := range wrongMark {
			for _, card := range []int{0, 3, 4, -1} {
				if e := b.Mark(n, card, mark); e != api.ErrArg {
					t.Errorf("Mark(%d, %d, %d): %d", n, card, mark, e)
				}
			}
		}
	}
	for _, none := range append(sample.Far(), -1, 2, 4, 7, 8) {
		for _, c := range [][2]int{{0, 0}, {3, 5}, {4, 0}, {0, 6}, {-1, -1}} {
			if e := b.Mark(none, c[0], c[1]); e != api.ErrNone {
				t.Errorf("Mark(%d, %d, %d): %d", none, c[0], c[1], e)
			}
		}
	}
	b.check(t)
}

func TestExamples(t *testing.T) {
	b := fresh(t, 8)
	b.take(t, 0, 0)
	b.take(t, 1, 2)
	if b.Free() != 6 || !slices.Equal(b.Taken(), []int{0, 1}) {
		t.Errorf("%d free, %v taken", b.Free(), b.Taken())
	}
	x, e := b.Bump(0, 2)
	y, f := b.Bump(1, 63)
	z, g := b.Bump(1, 2)
	if x != 0 || e != api.OK || y != 64 || f != api.OK || z != 0 || g != api.ErrFull {
		t.Errorf("Bump: %d, %d; %d, %d; %d, %d", x, e, y, f, z, g)
	}
	if e := b.Write(65, 7); e != api.OK {
		t.Errorf("Write(65, 7): %d", e)
	}
	for addr, want := range map[int]api.Word{65: 7, 2: 0, 127: 0} {
		wanted := api.ErrAddr
		if addr == 65 {
			wanted = api.OK
		}
		if w, e := b.Read(addr); w != want || e != wanted {
			t.Errorf("Read(%d): %d, %d", addr, w, e)
		}
	}
	b.give(t, 0)
	if n := b.take(t, 4, 3); n != 0 || !slices.Equal(b.Taken(), []int{1, 0}) || !slices.Equal(b.Taken(4), []int{0}) {
		t.Errorf("Take(4, 3): %d, %v taken, %v of 4", n, b.Taken(), b.Taken(4))
	}
	if e := b.Give(7); e != api.ErrNone {
		t.Errorf("Give(7): %d", e)
	}
}
