package parse

import (
	"slices"

	"moraine/api"
	"moraine/datum"
)

// What a part still takes, but for its end.
const (
	takesAny  = iota // data, one behind the other
	takesLast        // the datum behind a dot
	takesNone        // nothing
)

// A part is what has begun with its token and has not ended.
type part struct {
	api.Token
	takes int
	items []api.Datum // its data by now, and ahead of a mark's its symbol
	last  api.Datum   // what its pairs end in
}

// begun answers the part that begins with t.
func begun(t api.Token) part {
	p := part{Token: t}
	if name := marked(t.Kind); name != "" {
		p.items = []api.Datum{datum.Sym(name)}
	}
	return p
}

// marked answers the name of the symbol that a mark stands for, no chars for
// what is no mark.
func marked(kind int) string {
	switch kind {
	case api.TokQuote:
		return "quote"
	case api.TokQuasi:
		return "quasiquote"
	case api.TokOut:
		return "unquote"
	case api.TokSplice:
		return "unquote-splicing"
	}
	return ""
}

// mayEnd tells whether t, which closes, may end p.
func (p *part) mayEnd(t api.Token) bool {
	switch p.Kind {
	case api.TokOpen:
		return p.Square == t.Square && p.takes != takesLast
	case api.TokVec:
		return !t.Square
	}
	return false
}

// mayDot tells whether a dot may follow in p.
func (p *part) mayDot() bool {
	return p.Kind == api.TokOpen && p.takes == takesAny && len(p.items) > 0
}

// refuses answers the error that a datum is that begins in p, OK if it may.
func (p *part) refuses() api.Errno {
	switch {
	case p.takes == takesNone:
		return api.ErrForm
	case p.Kind == api.TokVec && len(p.items) == api.MaxObject:
		return api.ErrBig
	}
	return api.OK
}

// add puts d behind what is in p.
func (p *part) add(d api.Datum) {
	if p.takes == takesLast {
		p.takes = takesNone
		p.last = d
		return
	}
	p.items = append(p.items, d)
}

// whole answers the datum that p is, now that it ends. Its items become the
// datum's own: each of them has memory of its own already.
func (p *part) whole() api.Datum {
	if p.Kind == api.TokVec {
		return api.Datum{Kind: api.DatVec, L: p.items}
	}
	list := p.last
	for _, item := range slices.Backward(p.items) {
		list = api.Datum{Kind: api.DatPair, L: []api.Datum{item, list}}
	}
	return list
}
