package num

import "math/bits"

// The functions of this file work on magnitudes: rows of limbs, the lowest
// first. None of them writes into a row that is handed in, unless it says so;
// an answer may be a piece of one, so what leaves the package is copied.

// limbBits is how many bits a limb has.
const limbBits = 32

// trim answers l without the noughts at its end.
func trim(l []uint32) []uint32 {
	for len(l) > 0 && l[len(l)-1] == 0 {
		l = l[:len(l)-1]
	}
	return l
}

// limb answers the i-th limb of l, and 0 behind its end.
func limb(l []uint32, i int) uint32 {
	if i < len(l) {
		return l[i]
	}
	return 0
}

// turned answers l's limbs the other way round.
func turned(l []uint32) []uint32 {
	out := make([]uint32, len(l))
	for i := range len(l) {
		out[i] = l[len(l)-1-i]
	}
	return out
}

// compare answers -1, 0 or 1, as x is below, the same as, or above y; both are
// trimmed.
func compare(x, y []uint32) int {
	switch {
	case len(x) < len(y):
		return -1
	case len(x) > len(y):
		return 1
	}
	for i := range len(x) {
		place := len(x) - 1 - i
		switch {
		case x[place] < y[place]:
			return -1
		case x[place] > y[place]:
			return 1
		}
	}
	return 0
}

// plus answers the sum of x and y.
func plus(x, y []uint32) []uint32 {
	size := max(len(x), len(y))
	out := make([]uint32, size+1)
	var carry uint32
	for i := range size {
		out[i], carry = bits.Add32(limb(x, i), limb(y, i), carry)
	}
	out[size] = carry
	return out
}

// minus answers x less y, which is not greater than x.
func minus(x, y []uint32) []uint32 {
	out := make([]uint32, len(x))
	var borrow uint32
	for i := range len(x) {
		out[i], borrow = bits.Sub32(x[i], limb(y, i), borrow)
	}
	return out
}

// times answers the product of x and y, in as many limbs as both have together.
func times(x, y []uint32) []uint32 {
	out := make([]uint32, len(x)+len(y))
	for i, a := range x {
		// The greatest product of limbs, with the greatest limb and the greatest
		// carry added, is just below 2^64.
		var carry uint64
		for j, b := range y {
			carry += uint64(a)*uint64(b) + uint64(out[i+j])
			out[i+j] = uint32(carry)
			carry >>= limbBits
		}
		out[i+len(y)] = uint32(carry)
	}
	return out
}

// divide answers x by y, rounded down, and what is left; both are trimmed, and y
// is not 0.
func divide(x, y []uint32) (quo, left []uint32) {
	switch {
	case compare(x, y) < 0:
		return nil, x
	case len(y) == 1:
		quo, last := divideByLimb(x, y[0])
		return quo, trim([]uint32{last})
	}
	return divideLong(x, y)
}

// divideByLimb answers x by y, which is not 0, and what is left.
func divideByLimb(x []uint32, y uint32) (quo []uint32, left uint32) {
	quo = make([]uint32, len(x))
	for i := range len(x) {
		place := len(x) - 1 - i
		quo[place], left = bits.Div32(left, x[place], y)
	}
	return trim(quo), left
}

// divideLong answers x by y, which has two limbs at least and is not above x.
func divideLong(x, y []uint32) (quo, left []uint32) {
	// With the highest bit of y's last limb set, a limb of the quotient is
	// guessed at most one too great. Both are made greater alike: the quotient
	// stays.
	factor := uint32(1) << bits.LeadingZeros32(y[len(y)-1])
	rest := times(x, []uint32{factor})
	by := trim(times(y, []uint32{factor}))
	size := len(by)
	// The quotient's limbs come the highest first.
	var parts []uint32
	for place := len(rest) - size - 1; place >= 0; place-- {
		window := rest[place : place+size+1]
		part := guess(window, by)
		if takeOff(window, by, part) {
			part--
			putBack(window, by)
		}
		parts = append(parts, part)
	}
	left, _ = divideByLimb(rest[:size], factor)
	return trim(turned(parts)), left
}

// guess answers how often by goes into window, which has one limb more, or one
// too much: it looks at window's last three limbs and by's last two.
func guess(window, by []uint32) uint32 {
	n := len(by)
	high, next := uint64(by[n-1]), uint64(by[n-2])
	top := uint64(window[n])<<limbBits | uint64(window[n-1])
	part, left := top/high, top%high
	// Beyond a limb, what is left is greater than what next could take of it.
	for left>>limbBits == 0 && (part>>limbBits != 0 || part*next > left<<limbBits|uint64(window[n-2])) {
		part--
		left += high
	}
	return uint32(part)
}

// takeOff takes by, so many times, off window, in place, and tells whether that
// was more than window had. The last limb, of which nothing is left in the end,
// is looked at, but stays.
func takeOff(window, by []uint32, often uint32) bool {
	var carry, borrow uint32
	for i, b := range by {
		high, low := bits.Mul32(b, often)
		low, over := bits.Add32(low, carry, 0)
		window[i], borrow = bits.Sub32(window[i], low, borrow)
		carry = high + over
	}
	_, borrow = bits.Sub32(window[len(by)], carry, borrow)
	return borrow == 1
}

// putBack adds by to window, in place, of which it was taken off once too often.
// The last carry is what was borrowed for that.
func putBack(window, by []uint32) {
	var carry uint32
	for i, b := range by {
		window[i], carry = bits.Add32(window[i], b, carry)
	}
}

// common answers the greatest magnitude that divides x and y; 0 is divided by
// all.
func common(x, y []uint32) []uint32 {
	for len(y) > 0 {
		_, left := divide(x, y)
		x, y = y, left
	}
	return x
}
