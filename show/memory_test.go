package show_test

import (
	"slices"
	"strings"
	"testing"
	"unsafe"

	"moraine/api"
	"moraine/datum"
	"moraine/show"
)

// own is d in memory of its own, with something in the room behind the end of
// each of its lists.
func own(d api.Datum) api.Datum {
	d.T = strings.Clone(d.T)
	d.N.Mag = append(slices.Clone(d.N.Mag), 77)[:len(d.N.Mag)]
	var l []api.Datum
	for _, item := range d.L {
		l = append(l, own(item))
	}
	d.L = append(l, str("behind"))[:len(l)]
	return d
}

// behind fails, if the room behind an end in d, which is own's, has changed.
func behind(t *testing.T, d api.Datum) {
	t.Helper()
	if d.N.Mag[:len(d.N.Mag)+1][len(d.N.Mag)] != 77 || !datum.Same(d.L[:len(d.L)+1][len(d.L)], str("behind")) {
		t.Fatalf("what stands behind the ends of %+v has changed", d)
	}
	for _, item := range d.L {
		behind(t, item)
	}
}

func TestP6_1Stays(t *testing.T) {
	for d := range wild(3000, false) {
		mine := own(d)
		checkModel(t, mine)
		checkModel(t, mine)
		if !datum.Same(mine, d) {
			t.Fatalf("%+v became %+v", d, mine)
		}
		behind(t, mine)
	}
	for _, d := range odd() {
		mine := own(d)
		refused(t, mine)
		if !datum.Same(mine, d) {
			t.Fatalf("%+v became %+v", d, mine)
		}
		behind(t, mine)
	}
}

// bytesOf are the memory of a text.
func bytesOf(s string) (from, to uintptr) {
	from = uintptr(unsafe.Pointer(unsafe.StringData(s)))
	return from, from + uintptr(len(s))
}

// apart tells whether two texts have no byte in common.
func apart(a, b string) bool {
	fromA, toA := bytesOf(a)
	fromB, toB := bytesOf(b)
	return len(a) == 0 || len(b) == 0 || toA <= fromB || toB <= fromA
}

// What is answered is neither the datum's memory nor another answer's.
func TestP6_1NewMemory(t *testing.T) {
	l := []api.Datum{{}, {Kind: api.DatTrue}, {Kind: api.DatVoid}, {Kind: api.DatEnd}, seven(), vec(), char('a'), char(0), sym("a"), sym("abc"), sym("a b"), str("abc"), str("a"), list(sym("abc")), vec(str("abc"))}
	for _, d := range l {
		for _, call := range []func(api.Datum) (string, api.Errno){show.Write, show.Display} {
			first, _ := call(d)
			second, _ := call(d)
			if !apart(first, second) {
				t.Errorf("two answers of %+v share memory: %q", d, first)
			}
			for text := range parts(d) {
				if !apart(first, text) {
					t.Errorf("%q shares memory with %+v", first, d)
				}
			}
		}
	}
}

// parts are the texts in d.
func parts(d api.Datum) func(yield func(string) bool) {
	return func(yield func(string) bool) {
		if !yield(d.T) {
			return
		}
		for _, item := range d.L {
			for text := range parts(item) {
				if !yield(text) {
					return
				}
			}
		}
	}
}

// A change of what was handed in is not seen in the answer.
func TestP6_1IsNotKept(t *testing.T) {
	for _, kind := range []int{api.DatStr, api.DatSym} {
		bytes := []byte("abc")
		d := list(api.Datum{Kind: kind, T: unsafe.String(&bytes[0], len(bytes))}, integer(false, 7))
		first, _ := show.Write(d)
		second, _ := show.Display(d)
		want, plain := strings.Clone(first), strings.Clone(second)
		copy(bytes, "xyz")
		d.L[1].L[0].N.Mag[0] = 8
		d.L[1].L[0] = str("new")
		if first != want || second != plain {
			t.Errorf("%q became %q, %q became %q", want, first, plain, second)
		}
	}
}
