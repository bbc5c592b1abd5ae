package parse

import (
	"moraine/api"
	"moraine/fault"
)

// A row is what is open, the innermost part last.
type row []part

// innermost answers the innermost part; where nothing is open one of no kind,
// in which any datum may stand, and that nothing ends.
func (r row) innermost() *part {
	if len(r) == 0 {
		return &part{}
	}
	return &r[len(r)-1]
}

// take goes on with the token t. It answers the datum that t ends, and true, if
// nothing is open behind that.
func (r *row) take(t api.Token) (api.Datum, bool, error) {
	if err := r.wrong(t); err != nil {
		return api.Datum{}, false, err
	}
	switch t.Kind {
	case api.TokDot:
		r.innermost().takes = takesLast
	case api.TokClose:
		t.D = r.pop()
		fallthrough
	case api.TokDatum:
		d, whole := r.ended(t.D)
		return d, whole, nil
	default:
		*r = append(*r, begun(t))
	}
	return api.Datum{}, false, nil
}

// wrong answers what is wrong with t here, nil if nothing is.
func (r row) wrong(t api.Token) error {
	inner := r.innermost()
	e := api.OK
	switch t.Kind {
	case api.TokEnd:
		if len(r) > 0 {
			return fault.At(inner.At, fault.Of(api.ErrEnd))
		}
		e = api.ErrNone
	case api.TokClose:
		if !inner.mayEnd(t) {
			e = api.ErrForm
		}
	case api.TokDot:
		if !inner.mayDot() {
			e = api.ErrForm
		}
	default:
		e = inner.refuses()
		if e == api.OK && t.Kind != api.TokDatum && len(r) == api.MaxDepth {
			e = api.ErrDeep
		}
	}
	if e == api.OK {
		return nil
	}
	return fault.Of(e)
}

// ended goes on with the datum d, which has ended, and which ends the marks
// ahead of it. It answers what is whole by that, if nothing is open then.
func (r *row) ended(d api.Datum) (api.Datum, bool) {
	for len(*r) > 0 {
		inner := r.innermost()
		inner.add(d)
		if marked(inner.Kind) == "" {
			return api.Datum{}, false
		}
		d = r.pop()
	}
	return d, true
}

// pop takes the innermost part off, and answers the datum that it is.
func (r *row) pop() api.Datum {
	d := r.innermost().whole()
	*r = (*r)[:len(*r)-1]
	return d
}
