package lex

import (
	"errors"
	"strconv"

	"moraine/api"
)

// An errno is an api.Errno as an error.
type errno api.Errno

func (e errno) Error() string { return "error " + strconv.Itoa(int(e)) }

// A fault is an error at a place of the text. What lies around a fault wraps it
// in one of its own place: the innermost knows best where it is.
type fault struct {
	place int
	cause error
}

func (f fault) Error() string { return f.cause.Error() + " at " + strconv.Itoa(f.place) }

func (f fault) Unwrap() error { return f.cause }

// told answers the place of the innermost fault in err, 0 if there is none, and
// the error's number, OK if there is no error.
func told(err error) (place int, e api.Errno) {
	var f fault
	for cause := err; errors.As(cause, &f); cause = f.cause {
		place = f.place
	}
	var n errno
	errors.As(err, &n)
	return place, api.Errno(n)
}
