package show_test

import (
	"slices"
	"strings"
	"testing"

	"moraine/api"
	"moraine/datum"
	"moraine/parse"
	"moraine/show"
)

// written is what Write answers of a datum that may be.
func written(t *testing.T, d api.Datum) string {
	t.Helper()
	s, e := show.Write(d)
	if e != api.OK {
		t.Fatalf("Write(%+v): %q, %d", d, s, e)
	}
	return s
}

// back fails, unless what is written of d is read as d, to its last byte.
func back(t *testing.T, d api.Datum) {
	t.Helper()
	s := written(t, d)
	got, next, place, e := parse.One(s, 0)
	if !datum.Same(got, d) || next != len(s) || e != api.OK {
		t.Fatalf("One(%q, 0): %+v, %d, %d, %d; not %+v", s, got, next, place, e, d)
	}
}

func TestP6_2Back(t *testing.T) {
	for d := range texts {
		back(t, d)
	}
	for d := range wild(30000, true) {
		if len(written(t, d)) <= api.MaxSource {
			back(t, d)
		}
	}
	l := []api.Datum{{}, {Kind: api.DatTrue}, {Kind: api.DatNo}, vec(), str(""), vec(make([]api.Datum, 62)...), sym(strings.Repeat(" ", 62)), str(strings.Repeat("\x7f", 62))}
	for _, neg := range []bool{false, true} {
		l = append(l, integer(neg, slices.Repeat([]uint32{1<<32 - 1}, 48)...), integer(neg, append(make([]uint32, 47), 1)...))
	}
	for i, d := range l {
		back(t, d)
		for _, puts := range around() {
			back(t, puts(d))
			back(t, puts(puts(l[(i+3)%len(l)])))
		}
	}
}

// Up to the most levels and bytes that can be read.
func TestP6_2Limits(t *testing.T) {
	for _, core := range []api.Datum{{}, seven(), sym("."), char('('), str("(")} {
		for _, puts := range around()[:6] {
			back(t, nested(63, core, puts))
		}
		back(t, list(nested(31, core, around()[6])))
		back(t, list(nested(31, core, around()[7])))
	}
	back(t, nested(62, vec(), around()[1]))
	back(t, nested(64, seven(), around()[1]))
	l := slices.Repeat([]api.Datum{str("a\n")}, 682)
	for _, d := range []api.Datum{list(l...), ending(sym("abc"), l[1:]...)} {
		if n := len(written(t, d)); n < 4090 || n > 4096 {
			t.Fatalf("%d bytes", n)
		}
		back(t, d)
	}
	d := list(append(l[:681:681], char('a'))...)
	for n := len(written(t, d)); n < 4096; n++ {
		d = list(append(l[:681:681], str(strings.Repeat("a", n-4089)))...)
	}
	if n := len(written(t, d)); n != 4096 {
		t.Fatalf("%d bytes", n)
	}
	back(t, d)
}

// A register is what was written, and of which datum.
type register map[string]api.Datum

// add fails, if another datum was written like d.
func (r register) add(t *testing.T, d api.Datum) {
	t.Helper()
	s := written(t, d)
	if other, ok := r[s]; ok && !datum.Same(other, d) {
		t.Fatalf("%+v and %+v are written alike: %q", d, other, s)
	}
	r[s] = d
}

func TestP6_3OneTextEach(t *testing.T) {
	r := register{}
	for kind := range 11 {
		d := api.Datum{Kind: kind}
		if datum.May(d) {
			r.add(t, d)
		}
	}
	for d := range texts {
		r.add(t, d)
	}
	// Symbols and strings that look like what is written of others.
	for d := range wild(20000, false) {
		s := written(t, d)
		if datum.May(str(s)) {
			r.add(t, sym(s))
			r.add(t, list(sym(s)))
			r.add(t, vec(str(s), sym(s)))
		}
	}
	for d := range wild(1000, false) {
		r.add(t, d)
		for other := range changed(d) {
			if datum.May(other) {
				r.add(t, other)
			}
		}
	}
}

// Data of unlike fields, of the same items in another order, or otherwise in
// brackets.
func TestP6_3Unlike(t *testing.T) {
	a, b, nothing := sym("a"), sym("b"), api.Datum{}
	r := register{}
	l := []api.Datum{
		nothing, a, b, vec(), vec(a), vec(nothing), vec(a, b), vec(b, a), vec(list(a), b), vec(a, list(b)), vec(list(a, b)), vec(vec(a), b), list(vec(a), b), list(vec(a, b)),
		list(a), list(nothing), list(a, b), list(b, a), list(a, b, nothing), list(a, nothing), ending(b, a), ending(a, b), list(list(a), b), list(a, list(b)), list(list(a, b)),
		list(a, sym("."), b), ending(list(b), list(nothing)), ending(sym("."), a), ending(vec(b), a), ending(vec(), a), list(a, vec()), ending(ending(b, a), a),
		char('a'), str("a"), str("b"), str("ab"), sym("ab"), sym("A"), sym("a b"), sym("|a|"), str("|a|"), str(`"a"`), sym(`"a"`), list(sym("a b")), sym("(a b)"),
		integer(false), integer(false, 1), integer(true, 1), sym("1"), str("1"), char('1'), sym("-1"), sym("+1"), integer(false, 0, 1), integer(false, 1, 1), integer(false, 1, 0, 1),
		{Kind: api.DatTrue}, {Kind: api.DatNo}, {Kind: api.DatVoid}, {Kind: api.DatEnd}, sym("#t"), sym("#f"), sym("#<void>"), sym("#<eof>"), sym("t"), char('t'), char('f'),
		char(' '), char('\n'), char(159), char('x'), sym("#\\x"), sym("\\x"), str("\n"), str(`\n`), str("n"), sym("\n"), sym(`\n`), str("\x7f"), str(`\x7f;`), sym("\x7f"), sym(`\x7f;`), sym("quote"), list(sym("quote"), a), sym("'a"),
	}
	for _, d := range l {
		r.add(t, d)
	}
	if len(r) != len(l) {
		t.Errorf("%d data are written in %d ways", len(l), len(r))
	}
}

// changed are data that differ from d in one field of d, or of what is in it.
func changed(d api.Datum) func(yield func(api.Datum) bool) {
	return func(yield func(api.Datum) bool) {
		c := d
		for _, text := range []string{"", d.T + "a", d.T + " ", strings.ToUpper(d.T), strings.TrimPrefix(d.T, "#")} {
			c.T = text
			if !yield(c) {
				return
			}
		}
		c, mag := d, d
		c.N.Neg, mag.N.Mag = !d.N.Neg, append([]uint32{1}, d.N.Mag...)
		kind, code, fewer := d, d, d
		kind.Kind, code.C = d.Kind^3, d.C+1
		fewer.L = d.L[:max(0, len(d.L)-1)]
		for _, other := range []api.Datum{c, mag, kind, code, fewer} {
			if !yield(other) {
				return
			}
		}
		for i := range d.L {
			for item := range changed(d.L[i]) {
				whole := d
				whole.L = slices.Clone(d.L)
				whole.L[i] = item
				if !yield(whole) {
					return
				}
			}
		}
	}
}

func TestP6_4Parts(t *testing.T) {
	var l []api.Datum
	for d := range wild(3000, false) {
		if datum.Depth(d) < 6 {
			l = append(l, d)
		}
	}
	for i := range l {
		items := l[i:min(i+i%7, len(l))]
		for _, call := range []func(api.Datum) (string, api.Errno){show.Write, show.Display} {
			var texts []string
			for _, item := range items {
				s, _ := call(item)
				texts = append(texts, s)
			}
			want := "(" + strings.Join(texts, " ") + ")"
			if s, e := call(list(items...)); s != want || e != api.OK {
				t.Fatalf("the list of %+v: %q, %d; not %q", items, s, e, want)
			}
			if s, e := call(vec(items...)); s != "#"+want || e != api.OK {
				t.Fatalf("the vector of %+v: %q, %d; not #%q", items, s, e, want)
			}
		}
	}
}
