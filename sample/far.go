package sample

import "math"

// Far answers numbers that are no generation, kind, segment, card, mark or
// address; some of them would be one, if they were reckoned with in less bits.
func Far() []int {
	l := []int{math.MinInt, math.MinInt + 1, math.MaxInt - 1, math.MaxInt, -1024, -65536, 65536, 1 << 20}
	for _, bits := range []int{8, 16, 31, 32, 58, 59, 61, 62} {
		l = append(l, -1<<bits, -1<<bits-1, 1<<bits|1<<20, 1<<bits+1<<20)
		if bits > 16 {
			l = append(l, 1<<bits, 1<<bits+1, 1<<bits+64, -1<<bits+1)
		}
	}
	return l
}
