package word_test

import (
	"math"
	"testing"

	"moraine/api"
	"moraine/word"
)

// Sorts of words, as the chapter's list has them.
const (
	none = iota
	fixnum
	address
	constant
	character
	header
)

// sortOf is the chapter's list of words, reckoned by division alone, so that
// it shares nothing with the package.
func sortOf(w api.Word) int {
	tag, rest := w%8, w/8
	low, high := rest%32, rest/32
	switch {
	case tag == 0:
		return fixnum
	case (tag == 1 || tag == 2 || tag == 3 || tag == 6) && rest <= 65535:
		return address
	case tag == 4 && rest <= 6:
		return constant
	case tag == 4 && low == 7 && (high <= 0xD7FF || high >= 0xE000 && high <= 0x10FFFF):
		return character
	case tag == 5 && low >= 1 && low <= 13 && high%256 <= 62:
		return header
	}
	return none
}

// samples are words of all tags, at edges of every part, and some without rule.
func samples() []api.Word {
	var rests []uint64
	for n := range uint64(70_000) {
		rests = append(rests, n)
	}
	for _, high := range []uint64{0xD7FF, 0xD800, 0xDFFF, 0xE000, 0x10FFFF, 0x110000, 1<<32 + 97, 1<<32 | 0xD800, 1 << 55, 1<<56 - 1, 62, 63, 255, 62 | 1<<8, 62 | 255<<8, 63 | 1<<55} {
		for low := range uint64(32) {
			rests = append(rests, high<<5|low)
		}
	}
	for bit := range 61 {
		edge := uint64(1) << bit
		rests = append(rests, edge-1, edge, edge+1, edge|7, edge|65535, 1<<61-edge, edge|97<<5|7)
	}
	// A fixed rule (xorshift) in place of a random source.
	seed := uint64(88172645463325252)
	for range 20_000 {
		seed ^= seed << 13
		seed ^= seed >> 7
		seed ^= seed << 17
		rests = append(rests, seed>>3, seed>>40, seed>>3&^0xFF00|62<<5)
	}
	var l []api.Word
	for _, rest := range rests {
		for tag := range uint64(8) {
			l = append(l, api.Word(rest<<3|tag))
		}
	}
	return l
}

// told answers which of the five readers answer true of w; told[constant] is
// always false, as there is no reader of constants.
func told(w api.Word) (t [header + 1]bool) {
	_, t[fixnum] = word.Int(w)
	_, t[address] = word.Addr(w)
	_, t[character] = word.Rune(w)
	_, _, _, t[header] = word.Head(w)
	return t
}

func TestP1_1May(t *testing.T) {
	for _, w := range samples() {
		if got, want := word.May(w), sortOf(w) != none; got != want {
			t.Fatalf("May(%#x): %v", uint64(w), got)
		}
	}
}

func TestP1_1MayAtEdges(t *testing.T) {
	for _, c := range []struct {
		w   api.Word
		may bool
	}{
		{0, true}, {math.MaxUint64 - 7, true}, {1 << 63, true}, // fixnums: all rests
		{0<<3 | 1, true}, {65535<<3 | 1, true}, {65536<<3 | 1, false}, {1<<63 | 1, false},
		{0<<3 | 2, true}, {65535<<3 | 2, true}, {65536<<3 | 2, false}, {1<<63 | 2, false},
		{0<<3 | 3, true}, {65535<<3 | 3, true}, {65536<<3 | 3, false}, {1<<63 | 3, false},
		{0<<3 | 6, true}, {65535<<3 | 6, true}, {65536<<3 | 6, false}, {1<<63 | 6, false},
		{api.False, true}, {api.True, true}, {api.Nil, true}, {api.End, true}, {api.Void, true}, {api.Broken, true}, {api.Unbound, true},
		{api.False | 1<<8, false}, {api.Unbound | 1<<8, false}, {api.Nil | 1<<63, false},
		{0<<8 | 60, true}, {0xD7FF<<8 | 60, true}, {0xD800<<8 | 60, false}, {0xDFFF<<8 | 60, false}, {0xE000<<8 | 60, true},
		{0x10FFFF<<8 | 60, true}, {0x110000<<8 | 60, false}, {1<<40 | 97<<8 | 60, false}, {1<<63 | 97<<8 | 60, false},
		{8<<3 | 4, false}, {31<<3 | 4, false}, {97<<8 | 8<<3 | 4, false},
		{0<<3 | 5, false}, {1<<3 | 5, true}, {13<<3 | 5, true}, {14<<3 | 5, false}, {31<<3 | 5, false},
		{62<<8 | 13, true}, {63<<8 | 13, false}, {255<<8 | 13, false}, {1<<16 | 62<<8 | 13, true}, {0xFFFFFFFFFFFF<<16 | 62<<8 | 13, true}, {1<<63 | 63<<8 | 13, false},
		{7, false}, {15, false}, {math.MaxUint64, false},
	} {
		if got := word.May(c.w); got != c.may {
			t.Errorf("May(%#x): %v", uint64(c.w), got)
		}
	}
}

func TestP1_1Tag(t *testing.T) {
	for _, w := range samples() {
		if got := word.Tag(w); got != int(w%8) {
			t.Fatalf("Tag(%#x): %d", uint64(w), got)
		}
	}
}

func TestP1_1Truth(t *testing.T) {
	for _, w := range samples() {
		if got := word.Truth(w); got != (w != 4) {
			t.Fatalf("Truth(%#x): %v", uint64(w), got)
		}
	}
}

func TestP1_2Fix(t *testing.T) {
	const most, least = 1<<60 - 1, -1 << 60
	for _, c := range []struct {
		x int64
		w api.Word
	}{
		{0, 0}, {1, 8}, {-1, 1<<64 - 8}, {5, 40}, {-5, 1<<64 - 40},
		{most, 1<<63 - 8}, {most - 1, 1<<63 - 16}, {least, 1 << 63}, {least + 1, 1<<63 + 8},
		{math.MaxInt32, math.MaxInt32 * 8}, {math.MinInt32, 1<<64 - 1<<34},
	} {
		if w, e := word.Fix(c.x); w != c.w || e != api.OK {
			t.Errorf("Fix(%d): %#x, %d", c.x, uint64(w), e)
		}
		if x, ok := word.Int(c.w); x != c.x || !ok {
			t.Errorf("Int(%#x): %d, %v", uint64(c.w), x, ok)
		}
	}
	for _, x := range []int64{most + 1, most + 2, least - 1, least - 2, 1 << 61, 1 << 62, -1 << 61, math.MaxInt64, math.MinInt64} {
		if w, e := word.Fix(x); w != 0 || e != api.ErrRange {
			t.Errorf("Fix(%d): %#x, %d", x, uint64(w), e)
		}
	}
}

func TestP1_2IntOfOthers(t *testing.T) {
	for _, w := range samples() {
		if sortOf(w) == fixnum {
			continue
		}
		if x, ok := word.Int(w); x != 0 || ok {
			t.Fatalf("Int(%#x): %d, %v", uint64(w), x, ok)
		}
	}
}

func TestP1_2Char(t *testing.T) {
	for c := rune(-1000); c <= 0x110000+1000; c++ {
		is := c >= 0 && c < 0xD800 || c > 0xDFFF && c <= 0x10FFFF
		w, e := word.Char(c)
		if is && (e != api.OK || w != api.Word(c)*256+60) || !is && (e != api.ErrRange || w != 0) {
			t.Fatalf("Char(%#x): %#x, %d", c, uint64(w), e)
		}
		if !is {
			continue
		}
		if r, ok := word.Rune(w); r != c || !ok {
			t.Fatalf("Rune(%#x): %#x, %v", uint64(w), r, ok)
		}
	}
	for _, c := range []rune{math.MinInt32, math.MaxInt32, -0x7FFFFFFF + 97, -97} {
		if w, e := word.Char(c); w != 0 || e != api.ErrRange {
			t.Errorf("Char(%#x): %#x, %d", c, uint64(w), e)
		}
	}
}

func TestP1_2RuneOfOthers(t *testing.T) {
	for _, w := range samples() {
		if sortOf(w) == character {
			continue
		}
		if c, ok := word.Rune(w); c != 0 || ok {
			t.Fatalf("Rune(%#x): %d, %v", uint64(w), c, ok)
		}
	}
}

func TestP1_3At(t *testing.T) {
	for _, tag := range []int{api.TagPair, api.TagWeak, api.TagObject, api.TagForward} {
		for addr := range api.MaxAddr {
			w, e := word.At(tag, addr)
			if e != api.OK || w != api.Word(addr*8+tag) {
				t.Fatalf("At(%d, %d): %#x, %d", tag, addr, uint64(w), e)
			}
			if a, ok := word.Addr(w); a != addr || !ok {
				t.Fatalf("Addr(%#x): %d, %v", uint64(w), a, ok)
			}
		}
		for _, addr := range []int{-1, -8, math.MinInt, api.MaxAddr, api.MaxAddr + 1, 1 << 32, 1 << 61, math.MaxInt} {
			if w, e := word.At(tag, addr); w != 0 || e != api.ErrAddr {
				t.Errorf("At(%d, %d): %#x, %d", tag, addr, uint64(w), e)
			}
		}
	}
}

func TestP1_3AtOfNoTag(t *testing.T) {
	tags := []int{0, 4, 5, 7, 8, 9, 10, 11, 14, 17, -1, -2, -5, -6, -7, 1 << 32, 1<<32 | 1, math.MaxInt, math.MinInt, math.MinInt + 1}
	for _, tag := range tags {
		// ErrArg goes ahead of ErrAddr.
		for _, addr := range []int{0, 5, api.MaxAddr - 1, api.MaxAddr, -1} {
			if w, e := word.At(tag, addr); w != 0 || e != api.ErrArg {
				t.Errorf("At(%d, %d): %#x, %d", tag, addr, uint64(w), e)
			}
		}
	}
}

func TestP1_3AddrOfOthers(t *testing.T) {
	for _, w := range samples() {
		if sortOf(w) == address {
			continue
		}
		if a, ok := word.Addr(w); a != 0 || ok {
			t.Fatalf("Addr(%#x): %d, %v", uint64(w), a, ok)
		}
	}
}

// mores are a header's least and greatest more, and some between.
var mores = []uint64{0, 1, 2, 255, 256, 1<<32 - 1, 1 << 32, 1<<47 + 5, 1<<48 - 2, 1<<48 - 1}

func TestP1_4Header(t *testing.T) {
	for kind := api.TypeVector; kind <= api.TypePrimitive; kind++ {
		for n := range api.MaxObject + 1 {
			for _, more := range mores {
				w, e := word.Header(kind, n, more)
				if e != api.OK || uint64(w) != ((more*256+uint64(n))*32+uint64(kind))*8+5 {
					t.Fatalf("Header(%d, %d, %d): %#x, %d", kind, n, more, uint64(w), e)
				}
				k, m, o, ok := word.Head(w)
				if k != kind || m != n || o != more || !ok {
					t.Fatalf("Head(%#x): %d, %d, %d, %v", uint64(w), k, m, o, ok)
				}
			}
		}
	}
}

func TestP1_4HeaderOfWrong(t *testing.T) {
	for _, c := range []struct {
		kind, n int
		more    uint64
	}{
		{0, 0, 0}, {14, 0, 0}, {15, 3, 1}, {31, 0, 0}, {32, 0, 0}, {33, 0, 0}, {-1, 0, 0}, {-31, 0, 0}, {1<<32 + 1, 0, 0}, {math.MinInt, 0, 0}, {math.MinInt + 1, 0, 0}, {math.MaxInt, 0, 0},
		{1, 63, 0}, {1, 64, 0}, {1, 255, 0}, {1, 256, 0}, {1, 257, 0}, {1, -1, 0}, {1, -256, 0}, {1, math.MinInt, 0}, {1, math.MaxInt, 0}, {13, 63, 0},
		{1, 0, 1 << 48}, {1, 0, 1<<48 + 1}, {1, 62, 1 << 63}, {13, 0, math.MaxUint64},
	} {
		if w, e := word.Header(c.kind, c.n, c.more); w != 0 || e != api.ErrArg {
			t.Errorf("Header(%d, %d, %d): %#x, %d", c.kind, c.n, c.more, uint64(w), e)
		}
	}
}

func TestP1_4HeadOfOthers(t *testing.T) {
	for _, w := range samples() {
		if sortOf(w) == header {
			continue
		}
		if kind, n, more, ok := word.Head(w); kind != 0 || n != 0 || more != 0 || ok {
			t.Fatalf("Head(%#x): %d, %d, %d, %v", uint64(w), kind, n, more, ok)
		}
	}
}

// again makes w anew of what is told of it.
func again(w api.Word) (api.Word, api.Errno) {
	if x, ok := word.Int(w); ok {
		return word.Fix(x)
	}
	if c, ok := word.Rune(w); ok {
		return word.Char(c)
	}
	if a, ok := word.Addr(w); ok {
		return word.At(word.Tag(w), a)
	}
	if kind, n, more, ok := word.Head(w); ok {
		return word.Header(kind, n, more)
	}
	return w, api.OK
}

func TestP1_5ThereAndBack(t *testing.T) {
	for _, w := range samples() {
		var want [header + 1]bool
		sort := sortOf(w)
		want[sort] = sort != none && sort != constant
		if got := told(w); got != want {
			t.Fatalf("%#x is told as %v", uint64(w), got)
		}
		if got, e := again(w); got != w || e != api.OK {
			t.Fatalf("%#x anew: %#x, %d", uint64(w), uint64(got), e)
		}
	}
}

func TestP1_5MadeWordsMayBe(t *testing.T) {
	for made := range allMade() {
		if !word.May(made) {
			t.Fatalf("May(%#x): false", uint64(made))
		}
	}
}

// allMade tells words of all makers, no two of like things.
func allMade() func(yield func(api.Word) bool) {
	return func(yield func(api.Word) bool) {
		going := true
		tell := func(w api.Word, e api.Errno) {
			going = going && (e != api.OK || yield(w))
		}
		for _, w := range []api.Word{api.False, api.True, api.Nil, api.End, api.Void, api.Broken, api.Unbound} {
			tell(w, api.OK)
		}
		for x := int64(-40_000); x < 40_000; x++ {
			tell(word.Fix(x))
		}
		for x := range int64(1000) {
			tell(word.Fix(1<<60 - 1 - x))
			tell(word.Fix(-1<<60 + x))
		}
		for c := range rune(0x110000) {
			tell(word.Char(c))
		}
		for tag := range 8 {
			for addr := range api.MaxAddr {
				tell(word.At(tag, addr))
			}
		}
		for kind := range 32 {
			for n := range 256 {
				for _, more := range mores {
					tell(word.Header(kind, n, more))
				}
			}
		}
	}
}

func TestP1_6Apart(t *testing.T) {
	seen := map[api.Word]bool{}
	for made := range allMade() {
		if seen[made] {
			t.Fatalf("%#x is made of two things", uint64(made))
		}
		seen[made] = true
	}
	const fixnums, chars, places, heads = 82_000, 0x110000 - 0x800, 4 * api.MaxAddr, 13 * 63 * 10
	if want := 7 + fixnums + chars + places + heads; len(seen) != want {
		t.Errorf("%d words are made of %d things", len(seen), want)
	}
}
