// Package sample makes what the tests of several layers try; the program itself
// does not use it.
package sample

import "iter"

// Rows tells all texts of at most that many of pieces, the shorter ones first.
func Rows(most int, pieces ...string) iter.Seq[string] {
	return func(yield func(string) bool) {
		last := []string{""}
		for range most + 1 {
			var next []string
			for _, s := range last {
				if !yield(s) {
					return
				}
				for _, p := range pieces {
					next = append(next, s+p)
				}
			}
			last = next
		}
	}
}
