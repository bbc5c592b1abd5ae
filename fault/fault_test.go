package fault_test

import (
	"errors"
	"testing"

	"moraine/api"
	"moraine/fault"
)

func TestTold(t *testing.T) {
	form, deep := fault.Of(api.ErrForm), fault.Of(api.ErrDeep)
	for _, c := range []struct {
		err   error
		place int
		e     api.Errno
	}{
		{nil, 0, api.OK},
		{form, 0, api.ErrForm},
		{fault.At(7, form), 7, api.ErrForm},
		{fault.At(9, fault.At(7, deep)), 7, api.ErrDeep},
		{fault.At(9, fault.At(0, deep)), 0, api.ErrDeep},
		{fault.At(1, fault.At(9, fault.At(7, form))), 7, api.ErrForm},
		{errors.Join(fault.At(9, fault.At(7, form))), 7, api.ErrForm},
	} {
		if place, e := fault.Told(c.err); place != c.place || e != c.e {
			t.Errorf("Told(%v): %d, %d; not %d, %d", c.err, place, e, c.place, c.e)
		}
	}
}

func TestError(t *testing.T) {
	if got := fault.At(9, fault.At(7, fault.Of(api.ErrForm))).Error(); got != "error 9 at 7 at 9" {
		t.Error(got)
	}
}
