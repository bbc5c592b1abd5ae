// Package fault is errors that a layer wraps on their way up, each with the
// place of the text at which it was met.
package fault

import (
	"errors"
	"strconv"

	"moraine/api"
)

// A number is an api.Errno as an error.
type number api.Errno

func (n number) Error() string { return "error " + strconv.Itoa(int(n)) }

// A placed is an error at a place of the text.
type placed struct {
	place int
	cause error
}

func (p placed) Error() string { return p.cause.Error() + " at " + strconv.Itoa(p.place) }

func (p placed) Unwrap() error { return p.cause }

// Of answers e as an error, which has no place yet.
func Of(e api.Errno) error { return number(e) }

// At wraps err, which is not nil, in a place. What lies around a fault may wrap
// it again: the innermost knows best where it is.
func At(place int, err error) error { return placed{place, err} }

// Told answers the innermost place in err, 0 if there is none, and the error's
// number, OK if there is no error.
func Told(err error) (place int, e api.Errno) {
	var p placed
	for cause := err; errors.As(cause, &p); cause = p.cause {
		place = p.place
	}
	var n number
	errors.As(err, &n)
	return place, api.Errno(n)
}
