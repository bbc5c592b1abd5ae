package datum_test

import (
	"math"
	"slices"
	"strings"
	"testing"

	"moraine/api"
	"moraine/datum"
)

// The tests are held against the chapter's words as calls that call themselves,
// which share nothing with the package.

// depthOf is the chapter's depth of d.
func depthOf(d api.Datum) int {
	if d.Kind == api.DatVec && len(d.L) == 0 {
		return 1
	}
	deepest := 0
	for i, item := range d.L {
		depth := depthOf(item) + 1
		if d.Kind == api.DatPair && i == len(d.L)-1 && item.Kind == api.DatPair {
			depth--
		}
		deepest = max(deepest, depth)
	}
	return deepest
}

// countOf is the chapter's count of d.
func countOf(d api.Datum) int {
	n := 1
	for _, item := range d.L {
		n += countOf(item)
	}
	return n
}

// mayOf is whether d may be, its depth beside.
func mayOf(d api.Datum) bool {
	isNum := d.Kind == api.DatInt
	isText := d.Kind == api.DatStr || d.Kind == api.DatSym
	isPair, isVec := d.Kind == api.DatPair, d.Kind == api.DatVec
	switch chars := []rune(d.T); {
	case d.Kind < 0 || d.Kind > 10:
		return false
	case d.C < 0 || d.C > 0x10FFFF || d.C >= 0xD800 && d.C <= 0xDFFF:
		return false
	case d.C != 0 && d.Kind != api.DatChar:
		return false
	case !isNum && (d.N.Neg || len(d.N.Mag) > 0):
		return false
	case len(d.N.Mag) == 0 && d.N.Neg:
		return false
	case len(d.N.Mag) > 48 || len(d.N.Mag) > 0 && d.N.Mag[len(d.N.Mag)-1] == 0:
		return false
	case !isText && d.T != "" || string(chars) != d.T || len(chars) > 62:
		return false
	case d.Kind == api.DatSym && d.T == "":
		return false
	case isPair && len(d.L) != 2 || isVec && len(d.L) > 62 || !isPair && !isVec && len(d.L) > 0:
		return false
	}
	for _, item := range d.L {
		if !mayOf(item) {
			return false
		}
	}
	return true
}

// sameOf is whether a and b are the same in all fields.
func sameOf(a, b api.Datum) bool {
	if a.Kind != b.Kind || a.C != b.C || a.N.Neg != b.N.Neg || a.T != b.T {
		return false
	}
	return slices.Equal(a.N.Mag, b.N.Mag) && slices.EqualFunc(a.L, b.L, sameOf)
}

// vec is a vector of l.
func vec(l ...api.Datum) api.Datum { return api.Datum{Kind: api.DatVec, L: l} }

// pair is a pair of l, of however many items.
func pair(l ...api.Datum) api.Datum { return api.Datum{Kind: api.DatPair, L: l} }

// list is pairs of l that end in end.
func list(end api.Datum, l ...api.Datum) api.Datum {
	for i := len(l) - 1; i >= 0; i-- {
		end = pair(l[i], end)
	}
	return end
}

// char, number and text are one of their kinds.
func char(c rune) api.Datum { return api.Datum{Kind: api.DatChar, C: c} }

func number(neg bool, mag ...uint32) api.Datum {
	return api.Datum{Kind: api.DatInt, N: api.Num{Neg: neg, Mag: mag}}
}

func text(kind int, s string) api.Datum { return api.Datum{Kind: kind, T: s} }

// nested is core within that many of what around makes of it.
func nested(levels int, core api.Datum, around func(api.Datum) api.Datum) api.Datum {
	for range levels {
		core = around(core)
	}
	return core
}

// The ways in which one level is put around d.
func inCar(d api.Datum) api.Datum { return pair(d, api.Datum{}) }
func inVec(d api.Datum) api.Datum { return vec(d) }

// inCdr puts two levels around d: the cdr that is no pair is one, and its own.
func inCdr(d api.Datum) api.Datum { return pair(number(false, 7), vec(d)) }

// plain are data that may be, one of each kind at least.
func plain() []api.Datum {
	seven := number(false, 7)
	return []api.Datum{
		{Kind: api.DatNil}, {Kind: api.DatTrue}, {Kind: api.DatNo}, {Kind: api.DatVoid}, {Kind: api.DatEnd},
		char(0), char('a'), char(0xD7FF), char(0xE000), char(0xFFFD), char(0x10FFFF),
		number(false), seven, number(true, 7), number(true, 0, 1), number(false, slices.Repeat([]uint32{5}, 48)...),
		text(api.DatStr, ""), text(api.DatStr, "a"), text(api.DatStr, "\x00"), text(api.DatStr, strings.Repeat("ä", 62)),
		text(api.DatSym, "a"), text(api.DatSym, " "), text(api.DatSym, "\U0010FFFF\uFFFD"), text(api.DatSym, strings.Repeat("x", 62)),
		pair(seven, api.Datum{}), pair(seven, seven), list(api.Datum{}, seven, text(api.DatSym, "b"), vec(), seven),
		pair(pair(seven, seven), pair(seven, seven)), list(char('d'), seven, seven),
		vec(), vec(seven), vec(make([]api.Datum, 62)...), vec(vec(vec()), list(seven, vec(seven))),
	}
}

// odd are data that may not be, most of them for one reason alone.
func odd() []api.Datum {
	seven := number(false, 7)
	l := []api.Datum{
		{Kind: -1}, {Kind: 11}, {Kind: 12}, {Kind: -3}, {Kind: 1 << 32}, {Kind: 3 + 1<<32}, {Kind: math.MinInt}, {Kind: math.MaxInt},
		{Kind: 11, C: 'a', T: "a"}, {Kind: -1, L: []api.Datum{seven, {}}},
		char(-1), char(0xD800), char(0xDABC), char(0xDFFF), char(0x110000), char(math.MinInt32), char(math.MaxInt32),
		number(true), number(false, 0), number(true, 0), number(false, 7, 0), number(false, slices.Repeat([]uint32{5}, 49)...),
		text(api.DatSym, ""),
		pair(), pair(seven), pair(api.Datum{}), pair(seven, seven, seven), pair(seven, seven, api.Datum{}), pair(make([]api.Datum, 63)...),
		vec(make([]api.Datum, 63)...), vec(make([]api.Datum, 64)...), vec(make([]api.Datum, 1000)...),
		nested(65, seven, inCar), nested(65, seven, inVec), nested(64, vec(), inVec),
	}
	for _, kind := range []int{api.DatStr, api.DatSym} {
		for _, s := range []string{"\xff", "\x80", "a\xc3", "\xc0\x80", "\xed\xa0\x80", "\xf4\x90\x80\x80", "\xe2\x82", "ab\xfe\xffcd"} {
			l = append(l, text(kind, s))
		}
		for _, c := range []string{"x", "ä", "€", "😀", "\xff"} {
			l = append(l, text(kind, strings.Repeat(c, 63)), text(kind, strings.Repeat(c, 5000)))
		}
	}
	return append(l, strays()...)
}

// strays are data of each kind with one thing that the kind does not have.
func strays() []api.Datum {
	var l []api.Datum
	for _, d := range plain() {
		if d.Kind != api.DatChar {
			c := d
			c.C = 'a'
			l = append(l, c)
			c.C = -1
			l = append(l, c)
		}
		if d.Kind != api.DatInt {
			neg, mag, nought := d, d, d
			neg.N.Neg, mag.N.Mag, nought.N.Mag = true, []uint32{7}, []uint32{0}
			l = append(l, neg, mag, nought)
		}
		if d.Kind != api.DatStr && d.Kind != api.DatSym {
			s := d
			s.T = "x"
			l = append(l, s)
		}
		if d.Kind != api.DatPair && d.Kind != api.DatVec {
			one, two, deep := d, d, d
			one.L, two.L, deep.L = make([]api.Datum, 1), make([]api.Datum, 2), []api.Datum{vec(vec())}
			l = append(l, one, two, deep)
		}
	}
	return l
}

// A rule makes data in place of a random source, the same ones each time.
type rule struct {
	seed          uint64
	plain, spoilt []api.Datum
}

func newRule(seed uint64) *rule { return &rule{seed, plain(), odd()} }

// next answers a number from 0 to below n (xorshift).
func (r *rule) next(n int) int {
	r.seed ^= r.seed << 13
	r.seed ^= r.seed >> 7
	r.seed ^= r.seed << 17
	return int(r.seed>>20&0xFFFFFF) % n
}

// leaf answers one of plain, and of odd now and then.
func (r *rule) leaf() api.Datum {
	if r.next(20) == 0 {
		return r.spoilt[r.next(len(r.spoilt))]
	}
	return r.plain[r.next(len(r.plain))]
}

// wild answers a datum of no more than that many levels above its leaves; some
// of its parts may not be.
func (r *rule) wild(levels int) api.Datum {
	if levels == 0 || r.next(8) == 0 {
		return r.leaf()
	}
	d, size := api.Datum{Kind: api.DatPair}, 2
	switch r.next(12) {
	case 0, 1, 2, 3:
		d.Kind, size = api.DatVec, r.next(5)
	case 4:
		size = r.next(5)
	case 5:
		d.Kind, size = r.next(13)-1, r.next(3)
	}
	for range size {
		d.L = append(d.L, r.wild(levels-1))
	}
	return d
}

// samples are data of all sorts.
func samples() []api.Datum {
	l := append(plain(), odd()...)
	r := newRule(88172645463325252)
	for range 400 {
		l = append(l, r.wild(r.next(7)))
	}
	for levels := 60; levels < 70; levels++ {
		for _, core := range []api.Datum{{}, number(false, 7), vec(), pair(), vec(number(false, 7))} {
			l = append(l, nested(levels, core, inCar), nested(levels, core, inVec), nested(levels/2, core, inCdr))
		}
	}
	return l
}

func TestP3_1May(t *testing.T) {
	for i, d := range plain() {
		if !datum.May(d) {
			t.Errorf("May of plain %d (%v): false", i, d)
		}
	}
	for i, d := range odd() {
		if datum.May(d) {
			t.Errorf("May of odd %d (%v): true", i, d)
		}
	}
	mays := 0
	for _, d := range samples() {
		want := mayOf(d) && depthOf(d) <= 64
		if got := datum.May(d); got != want {
			t.Errorf("May(%v): %v", d, got)
		}
		if want {
			mays++
		}
	}
	if mays < 100 || mays > len(samples())-100 {
		t.Errorf("%d of %d samples may be: too few of one sort", mays, len(samples()))
	}
}

func TestP3_1MayOfChars(t *testing.T) {
	for c := rune(-1000); c < 0x110000+1000; c++ {
		want := c >= 0 && c < 0xD800 || c > 0xDFFF && c <= 0x10FFFF
		if got := datum.May(char(c)); got != want {
			t.Fatalf("May of the char %#x: %v", c, got)
		}
	}
}

func TestP3_1MayOfTexts(t *testing.T) {
	for _, c := range []string{"x", "ä", "€", "😀", "\x00", "\n", "\uFFFD"} {
		for n := range 70 {
			s := strings.Repeat(c, n)
			if got := datum.May(text(api.DatStr, s)); got != (n <= 62) {
				t.Errorf("May of a string of %d %q: %v", n, c, got)
			}
			if got := datum.May(text(api.DatSym, s)); got != (n >= 1 && n <= 62) {
				t.Errorf("May of a symbol of %d %q: %v", n, c, got)
			}
		}
	}
}

func TestP3_1MayOfSizes(t *testing.T) {
	for n := range 70 {
		items := slices.Repeat([]api.Datum{number(true, 7)}, n)
		if got := datum.May(vec(items...)); got != (n <= 62) {
			t.Errorf("May of a vector of %d: %v", n, got)
		}
		if got := datum.May(pair(items...)); got != (n == 2) {
			t.Errorf("May of a pair of %d: %v", n, got)
		}
		// A list is no vector: it may be as long as it is.
		if !datum.May(list(api.Datum{}, items...)) {
			t.Errorf("May of a list of %d: false", n)
		}
		limbs := slices.Repeat([]uint32{7}, n)
		if got := datum.May(number(n%2 == 1, limbs...)); got != (n <= 48) {
			t.Errorf("May of a number of %d limbs: %v", n, got)
		}
	}
}

func TestP3_1MayOfEmpty(t *testing.T) {
	for _, d := range plain() {
		if len(d.N.Mag) == 0 {
			d.N.Mag = []uint32{}
		}
		if len(d.L) == 0 {
			d.L = []api.Datum{}
		}
		if !datum.May(d) {
			t.Errorf("May(%v) with empty lists for nil ones: false", d)
		}
	}
}

func TestP3_1MayWithin(t *testing.T) {
	seven := number(false, 7)
	for _, around := range []func(api.Datum) api.Datum{
		inCar, inVec, inCdr,
		func(d api.Datum) api.Datum { return pair(seven, d) },
		func(d api.Datum) api.Datum { return list(api.Datum{}, seven, seven, d) },
		func(d api.Datum) api.Datum { return list(d, seven, seven, seven) },
		func(d api.Datum) api.Datum { return vec(seven, vec(seven, pair(seven, d)), seven) },
		func(d api.Datum) api.Datum { return vec(vec(d, seven), pair(pair(seven, seven), seven)) },
	} {
		for _, levels := range []int{1, 2, 10} {
			for _, d := range plain() {
				if whole := nested(levels, d, around); !datum.May(whole) {
					t.Errorf("May(%v): false", whole)
				}
			}
			for _, d := range odd() {
				if whole := nested(levels, d, around); datum.May(whole) {
					t.Errorf("May(%v): true", whole)
				}
			}
		}
	}
}

func TestP3_1MayAtDepth(t *testing.T) {
	seven := number(false, 7)
	long := slices.Repeat([]api.Datum{seven}, 1000)
	for _, c := range []struct {
		what  string
		d     api.Datum
		depth int
	}{
		{"cars, 64", nested(64, seven, inCar), 64},
		{"cars, 65", nested(65, seven, inCar), 65},
		{"cdrs, 64", nested(32, seven, inCdr), 64},
		{"cdrs, 65", nested(32, pair(seven, seven), inCdr), 65},
		{"cdrs that are vectors, 64", nested(31, pair(seven, vec()), inCdr), 64},
		{"cdrs that are vectors, 65", vec(nested(31, pair(seven, vec()), inCdr)), 65},
		{"vectors, 64", nested(64, seven, inVec), 64},
		{"vectors, 65", nested(65, seven, inVec), 65},
		{"empty vectors, 64", nested(63, vec(), inVec), 64},
		{"empty vectors, 65", nested(64, vec(), inVec), 65},
		{"a long list", list(api.Datum{}, long...), 1},
		{"a long list that ends in a number", list(seven, long...), 1},
		{"64 in a long list's last item", list(api.Datum{}, append(long[:999:999], nested(63, seven, inVec))...), 64},
		{"65 in a long list's last item", list(api.Datum{}, append(long[:999:999], nested(64, seven, inVec))...), 65},
		{"64 at a long list's end", list(nested(63, seven, inVec), long...), 64},
		{"65 at a long list's end", list(nested(64, seven, inVec), long...), 65},
		{"a deep list at a list's end", list(nested(64, seven, inCar), long...), 64},
	} {
		if got := datum.Depth(c.d); got != c.depth {
			t.Errorf("Depth of %s: %d", c.what, got)
		}
		if got := datum.May(c.d); got != (c.depth <= 64) {
			t.Errorf("May of %s: %v", c.what, got)
		}
	}
}

func TestP3_1DepthAndCount(t *testing.T) {
	seven := number(false, 7)
	two := list(api.Datum{}, seven, seven)
	for _, c := range []struct {
		d            api.Datum
		depth, count int
	}{
		{seven, 0, 1}, {api.Datum{}, 0, 1}, {text(api.DatStr, "abc"), 0, 1}, {number(false, 7, 0, 7), 0, 1},
		{list(api.Datum{}, seven), 1, 3}, {two, 1, 5}, {pair(seven, seven), 1, 3},
		{list(api.Datum{}, list(api.Datum{}, seven)), 2, 5}, {vec(), 1, 1}, {vec(list(api.Datum{}, seven)), 2, 4},
		{pair(seven, vec()), 2, 3}, {pair(vec(), seven), 2, 3}, {pair(two, two), 2, 11}, {pair(vec(two), two), 3, 12},
		{vec(seven, vec(), two), 2, 8},
		// Pairs that have not two items.
		{pair(), 0, 1}, {pair(seven), 1, 2}, {pair(two), 1, 6}, {pair(pair()), 0, 2}, {pair(vec()), 2, 2}, {pair(vec(seven)), 2, 3},
		{pair(seven, pair()), 1, 3}, {pair(pair(), pair()), 1, 3}, {pair(pair(), seven), 1, 3},
		{pair(seven, seven, seven), 1, 4}, {pair(seven, two, seven), 2, 8}, {pair(two, seven, seven), 2, 8}, {pair(seven, seven, two), 1, 8},
		{pair(seven, vec(two), pair()), 3, 9},
		// Kinds without items that have items all the same.
		{api.Datum{L: []api.Datum{seven}}, 1, 2}, {api.Datum{Kind: api.DatTrue, L: []api.Datum{seven, two}}, 2, 7},
		{api.Datum{Kind: api.DatStr, L: []api.Datum{vec()}}, 2, 2}, {api.Datum{Kind: 11, L: []api.Datum{two, seven}}, 2, 7},
		{api.Datum{Kind: -1, L: []api.Datum{pair()}}, 1, 2}, {pair(seven, api.Datum{Kind: api.DatInt, L: []api.Datum{two}}), 3, 8},
		{api.Datum{Kind: 11}, 0, 1}, {api.Datum{Kind: -8}, 0, 1},
	} {
		if got := datum.Depth(c.d); got != c.depth {
			t.Errorf("Depth(%v): %d, not %d", c.d, got, c.depth)
		}
		if got := datum.Count(c.d); got != c.count {
			t.Errorf("Count(%v): %d, not %d", c.d, got, c.count)
		}
	}
	for _, d := range samples() {
		if got, want := datum.Depth(d), depthOf(d); got != want {
			t.Errorf("Depth(%v): %d, not %d", d, got, want)
		}
		if got, want := datum.Count(d), countOf(d); got != want {
			t.Errorf("Count(%v): %d, not %d", d, got, want)
		}
	}
}

func TestP3_1OfDeepAndLong(t *testing.T) {
	const levels = 1 << 16
	seven := number(false, 7)
	many := slices.Repeat([]api.Datum{seven}, 300_000)
	for _, c := range []struct {
		what         string
		d            api.Datum
		depth, count int
		may, isList  bool
	}{
		{"cars", nested(levels, seven, inCar), levels, 2*levels + 1, false, true},
		{"vectors", nested(levels, seven, inVec), levels, levels + 1, false, false},
		{"cdrs", nested(levels/2, seven, inCdr), levels, 3*levels/2 + 1, false, false},
		{"pairs of one", nested(levels, vec(), func(d api.Datum) api.Datum { return pair(d) }), 2, levels + 1, false, false},
		{"no kind", nested(levels, seven, func(d api.Datum) api.Datum { return api.Datum{Kind: 99, L: []api.Datum{d}} }), levels, levels + 1, false, false},
		{"a list", list(api.Datum{}, many...), 1, 2*len(many) + 1, true, true},
		{"no list", list(seven, many...), 1, 2*len(many) + 1, true, false},
		{"a vector", vec(many...), 1, len(many) + 1, false, false},
	} {
		if got := datum.Depth(c.d); got != c.depth {
			t.Errorf("%s: Depth %d", c.what, got)
		}
		if got := datum.Count(c.d); got != c.count {
			t.Errorf("%s: Count %d", c.what, got)
		}
		if got := datum.May(c.d); got != c.may {
			t.Errorf("%s: May %v", c.what, got)
		}
		other := datum.Cons(seven, c.d).L[1]
		if !datum.Same(c.d, other) || datum.Same(c.d, seven) {
			t.Errorf("%s: Same", c.what)
		}
		if _, ok := datum.Items(other); ok != c.isList {
			t.Errorf("%s: Items %v", c.what, ok)
		}
		if items, ok := datum.Items(datum.List(other, seven)); !ok || len(items) != 2 || !datum.Same(items[0], c.d) {
			t.Errorf("%s: Items of List %v", c.what, ok)
		}
	}
}

// varied are data that all differ from d, and from each other, in one field.
func varied(d api.Datum) []api.Datum {
	l := slices.Repeat([]api.Datum{d}, 11)
	l[1].Kind++
	l[2].Kind -= 1 << 32
	l[3].C++
	l[4].C -= 5
	l[5].N.Neg = !d.N.Neg
	l[6].N.Mag = append([]uint32{1}, d.N.Mag...)
	l[7].N.Mag = append(slices.Clone(d.N.Mag), 0)
	l[8].T += "\x00"
	l[9].L = append(slices.Clone(d.L), api.Datum{})
	l[10].L = append([]api.Datum{{Kind: api.DatEnd}}, d.L...)
	return l
}

func TestP3_2SameFieldByField(t *testing.T) {
	for _, core := range append(plain(), odd()...) {
		l := varied(core)
		for i, a := range l {
			for j, b := range l {
				for _, around := range []func(api.Datum) api.Datum{inCar, inVec, inCdr} {
					for _, levels := range []int{0, 1, 3} {
						x, y := nested(levels, a, around), nested(levels, b, around)
						if got := datum.Same(x, y); got != (i == j) {
							t.Fatalf("Same(%v, %v): %v", x, y, got)
						}
					}
				}
			}
		}
	}
}

func TestP3_2SameOfSamples(t *testing.T) {
	l := samples()
	for i, a := range l {
		for j, b := range l {
			if got, want := datum.Same(a, b), sameOf(a, b); got != want {
				t.Fatalf("Same(%d, %d) (%v, %v): %v", i, j, a, b, got)
			}
		}
	}
}

func TestP3_2SameNumbersByFields(t *testing.T) {
	for _, c := range []struct {
		a, b api.Datum
		same bool
	}{
		{number(false, 7), number(false, 7), true},
		{number(false, 7), number(true, 7), false},
		{number(false, 7), number(false, 7, 0), false},
		{number(false), number(true), false},
		{number(false), number(false, 0), false},
		{number(false, 1, 2), number(false, 2, 1), false},
		{number(false, 1, 2), number(false, 1, 3), false},
	} {
		if got := datum.Same(c.a, c.b); got != c.same {
			t.Errorf("Same(%v, %v): %v", c.a, c.b, got)
		}
	}
}

func TestP3_2SameNilAndEmpty(t *testing.T) {
	for _, d := range append(plain(), odd()...) {
		other := d
		if len(d.N.Mag) == 0 {
			other.N.Mag = make([]uint32, 0, 5)
		}
		if len(d.L) == 0 {
			other.L = make([]api.Datum, 0, 5)
		}
		if !datum.Same(d, other) || !datum.Same(other, d) || !datum.Same(vec(d), vec(other)) {
			t.Errorf("Same(%v, %v): false", d, other)
		}
	}
}
