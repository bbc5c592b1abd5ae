package lex

import (
	"strconv"
	"strings"
	"unicode/utf8"

	"moraine/api"
	"moraine/charname"
	"moraine/fault"
)

// maxDigits is how many digits a char's number has at most.
const maxDigits = 6

// escaped answers the char that an escape stands for, in what goes on up to
// mark, and goes over it; the backslash has been gone over.
func (s *scan) escaped(mark byte) (rune, error) {
	backslash := s.at - 1
	letter, ok := s.take()
	if !ok {
		return 0, fault.Of(api.ErrEnd)
	}
	switch letter {
	case 'n':
		return '\n', nil
	case 't':
		return '\t', nil
	case 'r':
		return '\r', nil
	case 'x':
		digits, _, closed := strings.Cut(s.rest(), ";")
		if c, ok := numbered(digits); ok && closed {
			s.skip(digits + ";")
			return c, nil
		}
	case '|':
		if mark != '|' {
			break
		}
		fallthrough
	case '"', '\\':
		return rune(letter), nil
	}
	return 0, fault.At(backslash, fault.Of(api.ErrForm))
}

// char answers a char's token, and goes over it; #\ has been gone over.
func (s *scan) char() (api.Token, error) {
	begin := s.at
	_, size := utf8.DecodeRuneInString(s.rest())
	if size == 0 {
		return api.Token{}, fault.Of(api.ErrEnd)
	}
	// The first char is the token's, even if it is a delimiter.
	s.at += size
	s.upTo(delimiters)
	c, ok := meant(s.text[begin:s.at])
	if !ok {
		return api.Token{}, fault.Of(api.ErrForm)
	}
	return datumToken(api.Datum{Kind: api.DatChar, C: c}), nil
}

// meant answers the char that stands behind #\ so.
func meant(name string) (rune, bool) {
	if utf8.RuneCountInString(name) == 1 {
		c, _ := utf8.DecodeRuneInString(name)
		return c, utf8.ValidString(name)
	}
	if digits, ok := strings.CutPrefix(name, "x"); ok {
		return numbered(digits)
	}
	return charname.Char(name)
}

// numbered answers the char of a number to the base 16.
func numbered(digits string) (rune, bool) {
	if len(digits) > maxDigits {
		return 0, false
	}
	n, err := strconv.ParseUint(digits, 16, 32)
	c := rune(n)
	return c, err == nil && utf8.ValidRune(c)
}
