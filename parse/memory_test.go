package parse_test

import (
	"runtime"
	"slices"
	"strings"
	"testing"
	"unsafe"

	"moraine/api"
	"moraine/datum"
	"moraine/parse"
)

// held is a text whose data have bytes, limbs and items, many of them alike.
const held = "a a abc |a| \"a\" \"abc\" 5 4294967296 -4294967296 (a a) (a . abc) #(a #(a) a) 'a ''a `(,a ,@a) [quote a] (1 . #(4294967296 1)) () #() \"\" #\\a #t"

// A seen is all memory that was met, by where it lies.
type seen map[uintptr]bool

// meets adds so many bytes from at on, and tells whether any was met before.
func (s seen) meets(at unsafe.Pointer, size uintptr) bool {
	met := false
	for place := uintptr(at); place < uintptr(at)+size; place++ {
		met = met || s[place]
		s[place] = true
	}
	return met
}

// room adds the memory of l, that behind its end too.
func room[T any](s seen, l []T) bool {
	var one T
	return s.meets(unsafe.Pointer(unsafe.SliceData(l)), uintptr(cap(l))*unsafe.Sizeof(one))
}

// data adds all memory of l, and tells whether any of it was met before.
func (s seen) data(l []api.Datum) bool {
	met := room(s, l)
	for _, d := range l {
		met = s.meets(unsafe.Pointer(unsafe.StringData(d.T)), uintptr(len(d.T))) || met
		met = room(s, d.N.Mag) || met
		met = s.data(d.L) || met
	}
	return met
}

func TestP5_2NewMemory(t *testing.T) {
	s := strings.Clone(held)
	met := seen{}
	met.meets(unsafe.Pointer(unsafe.StringData(s)), uintptr(len(s)))
	for range 3 {
		l, _, e := parse.All(s)
		if e != api.OK || met.data(l) {
			t.Fatalf("All(%q): %+v shares memory (%d)", s, l, e)
		}
		// Its memory is not to be handed out again.
		defer runtime.KeepAlive(l)
	}
	d, _, _, _ := parse.One("'"+s, 0)
	if met.data([]api.Datum{d}) {
		t.Errorf("%+v shares memory", d)
	}
}

// spoil changes all that is in d, and in the room behind its lists.
func spoil(d api.Datum) {
	for i := range d.N.Mag[:cap(d.N.Mag)] {
		d.N.Mag[:cap(d.N.Mag)][i] ^= 0x55
	}
	for i := range d.L[:cap(d.L)] {
		spoil(d.L[:cap(d.L)][i])
		d.L[:cap(d.L)][i] = api.Datum{Kind: 99, T: "spoilt"}
	}
}

func TestP5_1ChangesAreNotSeen(t *testing.T) {
	want, last := modelAll(held)
	for i := range want {
		first, _, _ := parse.All(held)
		second, _, _ := parse.All(held)
		spoil(first[i])
		first[i] = want[i]
		if !slices.EqualFunc(first, want, datum.Same) {
			t.Fatalf("%+v changed with what stands beside it", want[i])
		}
		if !slices.EqualFunc(second, want, datum.Same) {
			t.Fatalf("%+v changed with another answer", want[i])
		}
		checkAll(t, held, want, last)
	}
}

// The text's bytes are not kept.
func TestP5_1TextIsNotKept(t *testing.T) {
	bytes := []byte(held)
	l, _, _ := parse.All(unsafe.String(&bytes[0], len(bytes)))
	if string(bytes) != held {
		t.Fatalf("the text became %q", bytes)
	}
	for i := range bytes {
		bytes[i] = 'X'
	}
	if want, _ := modelAll(held); !slices.EqualFunc(l, want, datum.Same) {
		t.Errorf("%+v changed with the text", l)
	}
}
