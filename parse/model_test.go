package parse_test

import (
	"slices"
	"testing"

	"moraine/api"
	"moraine/datum"
	"moraine/lex"
	"moraine/parse"
)

// An answer is what One answers.
type answer struct {
	d     api.Datum
	next  int
	place int
	err   api.Errno
}

func read(d api.Datum, next int) answer { return answer{d: d, next: next} }

func wrong(place int, e api.Errno) answer { return answer{place: place, err: e} }

func sym(s string) api.Datum { return api.Datum{Kind: api.DatSym, T: s} }

func vec(l ...api.Datum) api.Datum { return api.Datum{Kind: api.DatVec, L: l} }

func pair(a, d api.Datum) api.Datum {
	return api.Datum{Kind: api.DatPair, L: []api.Datum{a, d}}
}

// names are the symbols of the four kinds of marks.
func names() map[int]string {
	return map[int]string{api.TokQuote: "quote", api.TokQuasi: "quasiquote", api.TokOut: "unquote", api.TokSplice: "unquote-splicing"}
}

// A model reads a text by calls that call themselves, as the chapter tells the
// forms. It ends with a panic of an answer, if there is something wrong.
type model struct {
	s        string
	at, open int
}

func (m *model) next() api.Token {
	t, place, e := lex.Next(m.s, m.at)
	if e != api.OK {
		panic(wrong(place, e))
	}
	m.at = t.End
	return t
}

// within is the next token, where what began with begin is the innermost.
func (m *model) within(begin api.Token) api.Token {
	t := m.next()
	if t.Kind == api.TokEnd {
		panic(wrong(begin.At, api.ErrEnd))
	}
	return t
}

// datum is the datum that begins with t.
func (m *model) datum(t api.Token) api.Datum {
	switch t.Kind {
	case api.TokDatum:
		return t.D
	case api.TokDot, api.TokClose:
		panic(wrong(t.At, api.ErrForm))
	}
	if m.open == 64 {
		panic(wrong(t.At, api.ErrDeep))
	}
	m.open++
	defer func() { m.open-- }()
	switch t.Kind {
	case api.TokOpen:
		return m.list(t, m.within(t), false)
	case api.TokVec:
		return m.vector(t)
	}
	return pair(sym(names()[t.Kind]), pair(m.datum(m.within(t)), api.Datum{}))
}

// list is what follows from t on in a list that began with begin.
func (m *model) list(begin, t api.Token, hasData bool) api.Datum {
	ends := func(t api.Token) bool { return t.Kind == api.TokClose && t.Square == begin.Square }
	switch {
	case ends(t):
		return api.Datum{}
	case t.Kind == api.TokDot && hasData:
		last := m.datum(m.within(begin))
		if end := m.within(begin); !ends(end) {
			panic(wrong(end.At, api.ErrForm))
		}
		return last
	}
	car := m.datum(t)
	return pair(car, m.list(begin, m.within(begin), true))
}

func (m *model) vector(begin api.Token) api.Datum {
	var l []api.Datum
	for {
		t := m.within(begin)
		switch {
		case t.Kind == api.TokClose && !t.Square:
			return vec(l...)
		case len(l) == 62 && t.Kind != api.TokClose && t.Kind != api.TokDot:
			panic(wrong(t.At, api.ErrBig))
		}
		l = append(l, m.datum(t))
	}
}

// modelOne is what One should answer.
func modelOne(s string, at int) (a answer) {
	defer func() {
		if stop := recover(); stop != nil {
			a = stop.(answer)
		}
	}()
	m := model{s: s, at: at}
	t := m.next()
	if t.Kind == api.TokEnd {
		return wrong(len(s), api.ErrNone)
	}
	return read(m.datum(t), m.at)
}

// modelAll is what All should answer: its data, and how it ends.
func modelAll(s string) (l []api.Datum, last answer) {
	for at := 0; ; {
		a := modelOne(s, at)
		switch a.err {
		case api.OK:
			l = append(l, a.d)
			at = a.next
		case api.ErrNone:
			return l, answer{}
		default:
			return l, a
		}
	}
}

// check fails, unless One answers want, and the model does too.
func check(t *testing.T, s string, at int, want answer) {
	t.Helper()
	d, next, place, e := parse.One(s, at)
	got := answer{d, next, place, e}
	for _, a := range []answer{got, modelOne(s, at)} {
		if !datum.Same(a.d, want.d) || a.next != want.next || a.place != want.place || a.err != want.err {
			t.Fatalf("One(%q, %d): %+v; not %+v", s, at, a, want)
		}
	}
}

// checkAll fails, unless All answers want, and ends as last does.
func checkAll(t *testing.T, s string, want []api.Datum, last answer) {
	t.Helper()
	l, place, e := parse.All(s)
	if !slices.EqualFunc(l, want, datum.Same) || place != last.place || e != last.err {
		t.Fatalf("All(%q): %+v, %d, %d; not %+v, %+v", s, l, place, e, want, last)
	}
}
