package lex

import (
	"strings"
	"unicode/utf8"

	"moraine/api"
	"moraine/datum"
	"moraine/fault"
	"moraine/num"
)

// token answers the token that begins here, but for its places, and goes over
// it.
func (s *scan) token() (t api.Token, err error) {
	first, ok := s.take()
	if !ok {
		return api.Token{Kind: api.TokEnd}, nil
	}
	switch first {
	case '[':
		t.Square = true
		fallthrough
	case '(':
		t.Kind = api.TokOpen
	case ']':
		t.Square = true
		fallthrough
	case ')':
		t.Kind = api.TokClose
	case '\'':
		t.Kind = api.TokQuote
	case '`':
		t.Kind = api.TokQuasi
	case ',':
		t.Kind = api.TokOut
		if s.skip("@") {
			t.Kind = api.TokSplice
		}
	case '"':
		return s.quoted(first, datum.Str)
	case '|':
		return s.quoted(first, datum.Sym)
	case '#':
		if s.skip("(") {
			t.Kind = api.TokVec
			break
		}
		if s.skip("\\") {
			return s.char()
		}
		fallthrough
	default:
		s.at--
		return bare(s.upTo(delimiters + "|"))
	}
	return t, nil
}

// bare answers the token of bytes that no mark encloses.
func bare(part string) (api.Token, error) {
	switch part {
	case ".":
		return api.Token{Kind: api.TokDot}, nil
	case "#t", "#true":
		return datumToken(api.Datum{Kind: api.DatTrue}), nil
	case "#f", "#false":
		return datumToken(api.Datum{Kind: api.DatNo}), nil
	}
	if strings.HasPrefix(part, "#") {
		return api.Token{}, fault.Of(api.ErrForm)
	}
	n, e := num.Parse(part)
	switch e {
	case api.OK:
		return datumToken(api.Datum{Kind: api.DatInt, N: n}), nil
	case api.ErrForm:
		return textToken(datum.Sym(part))
	}
	return api.Token{}, fault.Of(e)
}

// quoted answers the token that goes on up to the next mark, of what makes of
// its chars, and goes over it; the first mark has been gone over.
func (s *scan) quoted(mark byte, makes func(string) api.Datum) (api.Token, error) {
	var text []byte
	for {
		next, ok := s.take()
		switch {
		case !ok:
			return api.Token{}, fault.Of(api.ErrEnd)
		case next == mark:
			return textToken(makes(string(text)))
		case next == '\\':
			c, err := s.escaped(mark)
			if err != nil {
				return api.Token{}, err
			}
			text = utf8.AppendRune(text, c)
		default:
			text = append(text, next)
		}
	}
}

// textToken answers the token of a string or a symbol, if it may be. An escape
// is whole chars: bytes that are no UTF-8 stay so beside what it stands for.
func textToken(d api.Datum) (api.Token, error) {
	switch {
	case !utf8.ValidString(d.T), d.Kind == api.DatSym && d.T == "":
		return api.Token{}, fault.Of(api.ErrForm)
	case utf8.RuneCountInString(d.T) > api.MaxObject:
		return api.Token{}, fault.Of(api.ErrBig)
	}
	return datumToken(d), nil
}

// datumToken answers the token of d.
func datumToken(d api.Datum) api.Token { return api.Token{Kind: api.TokDatum, D: d} }
