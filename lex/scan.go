package lex

import (
	"strings"

	"moraine/api"
	"moraine/fault"
)

// The bytes that part tokens, and those behind which a token does not go on.
const (
	blanks     = "\t\n\f\r "
	delimiters = blanks + "()[]\";'`,"
)

// A scan is a text, and how far it has been gone through.
type scan struct {
	text string
	at   int
}

// rest answers what has not been gone through.
func (s *scan) rest() string { return s.text[s.at:] }

// take answers the next byte and goes over it; false at the text's end.
func (s *scan) take() (byte, bool) {
	if s.at == len(s.text) {
		return 0, false
	}
	s.at++
	return s.text[s.at-1], true
}

// skip goes over part, if it is what comes next.
func (s *scan) skip(part string) bool {
	if !strings.HasPrefix(s.rest(), part) {
		return false
	}
	s.at += len(part)
	return true
}

// upTo answers the bytes ahead of the next one of ends, or of the text's end,
// and goes over them.
func (s *scan) upTo(ends string) string {
	part := s.rest()
	if n := strings.IndexAny(part, ends); n >= 0 {
		part = part[:n]
	}
	s.at += len(part)
	return part
}

// goOver goes over blanks and comments.
func (s *scan) goOver() error {
	for {
		s.at = len(s.text) - len(strings.TrimLeft(s.rest(), blanks))
		begin := s.at
		switch {
		case s.skip(";"):
			s.upTo("\n")
		case s.skip("#|"):
			if !s.comment() {
				return fault.At(begin, fault.Of(api.ErrEnd))
			}
		default:
			return nil
		}
	}
}

// comment goes over a comment whose #| has been gone over, and over those within
// it; false, if the text ends in it.
func (s *scan) comment() bool {
	for open := 1; open > 0; {
		switch {
		case s.skip("#|"):
			open++
		case s.skip("|#"):
			open--
		case s.at == len(s.text):
			return false
		default:
			s.at++
		}
	}
	return true
}
