package datum_test

import (
	"cmp"
	"math"
	"math/big"
	"reflect"
	"slices"
	"strings"
	"testing"
	"unsafe"

	"moraine/api"
	"moraine/datum"
)

func TestP3_3Int(t *testing.T) {
	for _, n := range []int64{0, 1, -1, 7, -7, math.MaxUint32, -math.MaxUint32, 1 << 32, -1 << 32, 1<<60 - 1, 1 << 60, -1 << 60, math.MaxInt64, math.MinInt64, math.MinInt64 + 1} {
		size := new(big.Int).Abs(big.NewInt(n)).Uint64()
		want := number(n < 0, uint32(size), uint32(size>>32))
		for len(want.N.Mag) > 0 && want.N.Mag[len(want.N.Mag)-1] == 0 {
			want.N.Mag = want.N.Mag[:len(want.N.Mag)-1]
		}
		if got := datum.Int(n); !sameOf(got, want) || !datum.May(got) {
			t.Errorf("Int(%d): %v", n, got)
		}
	}
}

func TestP3_3Texts(t *testing.T) {
	for _, s := range []string{"", "a", " ", "\x00", "ä€😀", "\xff", "a\xc3", strings.Repeat("x", 62), strings.Repeat("x", 63), strings.Repeat("😀", 5000)} {
		if got := datum.Str(s); !sameOf(got, api.Datum{Kind: 5, T: s}) {
			t.Errorf("Str(%q): %v", s, got)
		}
		if got := datum.Sym(s); !sameOf(got, api.Datum{Kind: 6, T: s}) {
			t.Errorf("Sym(%q): %v", s, got)
		}
	}
}

func TestP3_3List(t *testing.T) {
	if got := datum.List(); !sameOf(got, api.Datum{Kind: 0}) {
		t.Errorf("List(): %v", got)
	}
	a, b, c := number(false, 7), text(api.DatSym, "b"), vec(number(true, 8), char('c'))
	nothing := api.Datum{Kind: 0}
	want := api.Datum{Kind: 7, L: []api.Datum{a, {Kind: 7, L: []api.Datum{b, {Kind: 7, L: []api.Datum{c, nothing}}}}}}
	if got := datum.List(a, b, c); !sameOf(got, want) {
		t.Errorf("List(7, b, #(-8 c)): %v", got)
	}
	l := samples()
	for i := range l {
		some := l[i:min(i+i%5, len(l))]
		if got := datum.List(some...); !sameOf(got, list(nothing, some...)) {
			t.Errorf("List(%v): %v", some, got)
		}
	}
}

func TestP3_3Cons(t *testing.T) {
	l := samples()
	for i, a := range l {
		d := l[(i*7+3)%len(l)]
		want := api.Datum{Kind: 7, L: []api.Datum{a, d}}
		if got := datum.Cons(a, d); !sameOf(got, want) {
			t.Errorf("Cons(%v, %v): %v", a, d, got)
		}
	}
}

func TestP3_4Items(t *testing.T) {
	nothing, seven := api.Datum{}, number(false, 7)
	for _, l := range [][]api.Datum{nil, {seven}, {seven, nothing}, {nothing, nothing, nothing}, plain(), odd(), samples()} {
		got, ok := datum.Items(list(nothing, l...))
		if !ok || !slices.EqualFunc(got, l, sameOf) {
			t.Errorf("Items of the list of %v: %v, %v", l, got, ok)
		}
	}
}

func TestP3_4ItemsOfNoList(t *testing.T) {
	seven := number(false, 7)
	ends := append([]api.Datum{vec(list(api.Datum{}, seven)), {Kind: 8}, {Kind: 11}, {Kind: -1, L: []api.Datum{seven, {}}}}, plain()[1:]...)
	ends = append(ends, pair(), pair(seven), pair(api.Datum{}), pair(seven, seven, api.Datum{}), pair(seven, api.Datum{}, api.Datum{}))
	for _, end := range ends {
		// Some of plain are lists themselves.
		if last := lastOf(end); last.Kind == api.DatNil {
			continue
		}
		for n := range 5 {
			d := list(end, slices.Repeat([]api.Datum{seven}, n)...)
			if got, ok := datum.Items(d); ok || got != nil {
				t.Errorf("Items(%v): %v, %v", d, got, ok)
			}
		}
	}
}

// lastOf is what pairs of two items end in.
func lastOf(d api.Datum) api.Datum {
	for d.Kind == api.DatPair && len(d.L) == 2 {
		d = d.L[1]
	}
	return d
}

// A piece is memory, from at on, of that many bytes.
type piece struct {
	at   unsafe.Pointer
	size uintptr
}

// pieceOf is the memory of l, and of the room behind its end.
func pieceOf[T any](l []T) piece {
	var one T
	return piece{unsafe.Pointer(unsafe.SliceData(l)), uintptr(cap(l)) * unsafe.Sizeof(one)}
}

// pieces are the memory of the data l, and of all that is in them.
func pieces(l []api.Datum) []piece {
	all := []piece{pieceOf(l)}
	for _, d := range l {
		all = append(all, piece{unsafe.Pointer(unsafe.StringData(d.T)), uintptr(len(d.T))}, pieceOf(d.N.Mag))
		all = append(all, pieces(d.L)...)
	}
	return slices.DeleteFunc(all, func(p piece) bool { return p.size == 0 })
}

// meet tells whether any two of l have a byte in common.
func meet(l []piece) bool {
	l = slices.Clone(l)
	slices.SortFunc(l, func(p, q piece) int { return cmp.Compare(uintptr(p.at), uintptr(q.at)) })
	for i := 1; i < len(l); i++ {
		if uintptr(l[i-1].at)+l[i-1].size > uintptr(l[i].at) {
			return true
		}
	}
	return false
}

// own is d in memory of its own, with room behind the end of each of its lists
// in which something stands.
func own(d api.Datum) api.Datum {
	d.T = strings.Clone(d.T)
	mag := append(slices.Clone(d.N.Mag), 0xABCD)
	d.N.Mag = mag[:len(mag)-1]
	items := []api.Datum{}
	for _, item := range d.L {
		items = append(items, own(item))
	}
	items = append(items, api.Datum{Kind: 77, T: "behind"})
	d.L = items[:len(items)-1]
	return d
}

// whole is d with what stands in the room behind the ends of its lists.
func whole(d api.Datum) api.Datum {
	d.T = strings.Clone(d.T)
	d.N.Mag = slices.Clone(d.N.Mag[:len(d.N.Mag)+1])
	d.L = slices.Clone(d.L[:len(d.L)+1])
	for i := range d.L[:len(d.L)-1] {
		d.L[i] = whole(d.L[i])
	}
	return d
}

// owned are data in memory of their own, in a row with room behind its end.
func owned() []api.Datum {
	r := newRule(362436069)
	l := append(plain(), odd()...)
	for range 30 {
		l = append(l, r.wild(4))
	}
	for i, d := range l {
		l[i] = own(d)
	}
	l = append(l, own(list(api.Datum{}, plain()...)), own(list(api.Datum{}, l[:20]...)), own(list(api.Datum{})))
	return append(l, own(char('e')))
}

// calls hands l to all calls, and tells what each of them answers.
func calls(l []api.Datum, tell func(what string, answer []api.Datum)) {
	last := len(l) - 1
	tell("List", []api.Datum{datum.List(l[:last]...)})
	// The same datum twice makes two of it.
	tell("List of two", []api.Datum{datum.List(l[0], l[last], l[0], l[last])})
	for i, d := range l {
		other := l[(i*3+1)%len(l)]
		tell("Cons", []api.Datum{datum.Cons(d, other)})
		tell("Cons of the same", []api.Datum{datum.Cons(d, d)})
		tell("List of the same", []api.Datum{datum.List(d, d, d)})
		items, _ := datum.Items(d)
		tell("Items", items)
		items, _ = datum.Items(pair(d, pair(d, api.Datum{})))
		tell("Items of the same", items)
		datum.May(d)
		datum.Depth(d)
		datum.Count(d)
		datum.Same(d, other)
		datum.Same(d, d)
		if d.T != "" {
			tell("Str", []api.Datum{datum.Str(d.T)})
			tell("Sym", []api.Datum{datum.Sym(d.T)})
		}
	}
}

func TestP3_5HandedInStays(t *testing.T) {
	l := owned()
	before := make([]api.Datum, len(l))
	for i, d := range l {
		before[i] = whole(d)
	}
	calls(l, func(string, []api.Datum) {})
	for i, d := range l {
		if !reflect.DeepEqual(whole(d), before[i]) {
			t.Errorf("%v became %v", before[i], whole(d))
		}
	}
}

func TestP3_5AnsweredIsNew(t *testing.T) {
	l := owned()
	in := pieces(l)
	if meet(in) {
		t.Fatal("what is handed in has no memory of its own")
	}
	calls(l, func(what string, answer []api.Datum) {
		t.Helper()
		out := pieces(answer)
		if meet(out) {
			t.Errorf("%s: two parts of %v share memory", what, answer)
		}
		if meet(append(out, in...)) {
			t.Errorf("%s: %v shares memory with what was handed in", what, answer)
		}
	})
}

func TestP3_5AnsweredTwice(t *testing.T) {
	d := own(list(api.Datum{}, plain()...))
	first, _ := datum.Items(d)
	second, _ := datum.Items(d)
	both := append(pieces(first), pieces(second)...)
	for _, answer := range [][]api.Datum{
		{datum.List(d)}, {datum.List(d)}, {datum.Cons(d, d)}, {datum.Cons(d, d)},
		{datum.Int(7)}, {datum.Int(7)}, {datum.Str("a")}, {datum.Str("a")}, {datum.Sym("a")}, {datum.Sym("a")},
	} {
		both = append(both, pieces(answer)...)
	}
	if meet(both) {
		t.Error("two answers share memory")
	}
}

// spoil changes d's limbs and items, and what stands in the room behind them.
func spoil(d api.Datum) {
	for i := range d.N.Mag[:cap(d.N.Mag)] {
		d.N.Mag[:cap(d.N.Mag)][i] ^= 0x55
	}
	for i, item := range d.L {
		spoil(item)
		d.L[i] = api.Datum{Kind: 99, T: "spoilt"}
	}
	if behind := append(d.L, api.Datum{Kind: 99}); len(behind) > 1 {
		behind[0].C ^= 5
	}
}

func TestP3_5ChangesAreNotSeen(t *testing.T) {
	l := owned()
	before := make([]api.Datum, len(l))
	for i, d := range l {
		before[i] = whole(d)
	}
	// What was answered is changed: what was handed in stays.
	calls(l, func(_ string, answer []api.Datum) {
		for _, d := range answer {
			spoil(d)
		}
	})
	for i, d := range l {
		if !reflect.DeepEqual(whole(d), before[i]) {
			t.Fatalf("%v became %v", before[i], whole(d))
		}
	}
	// What was handed in is changed: what was answered stays.
	var answers, copies []api.Datum
	calls(l, func(_ string, answer []api.Datum) {
		for _, d := range answer {
			answers, copies = append(answers, d), append(copies, own(d))
		}
	})
	for i, d := range l {
		spoil(d)
		l[i] = api.Datum{Kind: 98}
	}
	for i, d := range answers {
		if !sameOf(d, copies[i]) {
			t.Fatalf("%v became %v", copies[i], d)
		}
	}
}

func TestP3_5BytesAreNew(t *testing.T) {
	bytes := []byte("abc")
	s := unsafe.String(&bytes[0], len(bytes))
	str, sym := datum.Str(s), datum.Sym(s)
	held := text(api.DatStr, s)
	l, p := datum.List(held, vec(held)), datum.Cons(held, vec(held))
	items, ok := datum.Items(pair(held, pair(vec(held), api.Datum{})))
	bytes[1] = 'X'
	kept := text(api.DatStr, "abc")
	if str.T != "abc" || sym.T != "abc" {
		t.Errorf("Str, Sym: %q, %q", str.T, sym.T)
	}
	if !sameOf(l, list(api.Datum{}, kept, vec(kept))) || !sameOf(p, pair(kept, vec(kept))) {
		t.Errorf("List, Cons: %v, %v", l, p)
	}
	if !ok || !slices.EqualFunc(items, []api.Datum{kept, vec(kept)}, sameOf) {
		t.Errorf("Items: %v", items)
	}
}

func TestP3_6ItemsOfList(t *testing.T) {
	l := samples()
	for i := range l {
		some := l[i:min(i+i%7, len(l))]
		items, ok := datum.Items(datum.List(some...))
		if !ok || !slices.EqualFunc(items, some, datum.Same) {
			t.Errorf("Items of List(%v): %v, %v", some, items, ok)
		}
	}
}

func TestP3_6Same(t *testing.T) {
	l := samples()
	for i, a := range l {
		if !datum.Same(a, a) || !datum.Same(a, own(a)) || !datum.Same(own(a), a) {
			t.Errorf("%v and itself", a)
		}
		if b := own(a); datum.Depth(a) != datum.Depth(b) || datum.Count(a) != datum.Count(b) || datum.May(a) != datum.May(b) {
			t.Errorf("%v and its like: depth, count or whether it may be", a)
		}
		for _, b := range l[:i] {
			same := datum.Same(a, b)
			if same != datum.Same(b, a) {
				t.Fatalf("Same(%v, %v) turned round", a, b)
			}
			if same && (datum.Depth(a) != datum.Depth(b) || datum.Count(a) != datum.Count(b)) {
				t.Fatalf("%v and %v are the same, but not their depths and counts", a, b)
			}
		}
	}
}

func TestP3_7ItemsOfCons(t *testing.T) {
	l := samples()
	for i, d := range l {
		some := l[i:min(i+i%6, len(l))]
		want := append([]api.Datum{d}, some...)
		items, ok := datum.Items(datum.Cons(d, datum.List(some...)))
		if !ok || !slices.EqualFunc(items, want, datum.Same) {
			t.Errorf("Items of Cons of %v and List(%v): %v, %v", d, some, items, ok)
		}
	}
}

func TestP3_8Within(t *testing.T) {
	for _, d := range append(samples(), nested(64, char('x'), inCar), nested(32, char('x'), inCdr)) {
		if datum.May(d) {
			checkWithin(t, d, d)
		}
	}
}

// checkWithin fails, if something in part, which is in whole or is it, may not
// be, is deeper than whole, or counts as much.
func checkWithin(t *testing.T, whole, part api.Datum) {
	t.Helper()
	for _, item := range part.L {
		if !datum.May(item) || datum.Depth(item) > datum.Depth(whole) || datum.Count(item) >= datum.Count(whole) {
			t.Fatalf("%v in %v", item, whole)
		}
		checkWithin(t, whole, item)
	}
}
