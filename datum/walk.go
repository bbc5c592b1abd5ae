package datum

import (
	"iter"
	"slices"
	"strings"

	"moraine/api"
)

// A row is what is still to be gone over, the next one last. Data are gone over
// with such a row, not by calls that call themselves: no datum is too deep for
// it, and no list too long.
type row[T any] []T

// put puts x ahead of all that is in the row.
func (r *row[T]) put(x T) { *r = append(*r, x) }

// take takes the next one off.
func (r *row[T]) take() T {
	last := len(*r) - 1
	x := (*r)[last]
	*r = (*r)[:last]
	return x
}

// turned tells l's places, the last one first: put into a row so, they are taken
// off the first one first, and no more of a long list than its rest waits there.
func turned(l []api.Datum) iter.Seq[int] {
	return func(yield func(int) bool) {
		for i := len(l) - 1; i >= 0 && yield(i); i-- {
		}
	}
}

// parts tells d and all that is in it, each one ahead of its items, and how many
// levels below d it lies.
func parts(d api.Datum) iter.Seq2[*api.Datum, int] {
	type placed struct {
		part  *api.Datum
		level int
	}
	return func(yield func(*api.Datum, int) bool) {
		left := row[placed]{{&d, 0}}
		for len(left) > 0 {
			p := left.take()
			if !yield(p.part, p.level) {
				return
			}
			for i := range turned(p.part.L) {
				left.put(placed{&p.part.L[i], p.level + step(p.part, i)})
			}
		}
	}
}

// step answers how many levels below d its i-th item lies: a pair that is the
// cdr of a pair goes on with the same list.
func step(d *api.Datum, i int) int {
	isCdr := d.Kind == api.DatPair && i == len(d.L)-1
	if isCdr && d.L[i].Kind == api.DatPair {
		return 0
	}
	return 1
}

// reach answers how deep what holds a part on that level is by this part alone:
// a vector is a level more, even if nothing is in it.
func reach(part *api.Datum, level int) int {
	if part.Kind == api.DatVec {
		return level + 1
	}
	return level
}

// alike tells whether a and b are the same, but for what is in their items.
func alike(a, b api.Datum) bool {
	return a.Kind == b.Kind && a.C == b.C && a.T == b.T && len(a.L) == len(b.L) &&
		a.N.Neg == b.N.Neg && slices.Equal(a.N.Mag, b.N.Mag)
}

// fresh answers d in new memory, down to its bytes.
func fresh(d api.Datum) api.Datum {
	left := row[*api.Datum]{&d}
	for len(left) > 0 {
		part := left.take()
		part.T = strings.Clone(part.T)
		part.N.Mag = append([]uint32(nil), part.N.Mag...)
		part.L = append([]api.Datum(nil), part.L...)
		for i := range turned(part.L) {
			left.put(&part.L[i])
		}
	}
	return d
}
