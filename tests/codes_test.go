package tests

import (
	"testing"

	"loop.example/g00635/impl"
)

func TestCodesAndLimits(t *testing.T) {
	codes := []int64{
		impl.OK, impl.ErrForm, impl.ErrSize, impl.ErrSyntax, impl.ErrShort, impl.ErrSum,
		impl.ErrNone, impl.ErrThere, impl.ErrRange, impl.ErrFull, impl.ErrState,
	}
	for i, c := range codes {
		if c != int64(i) {
			t.Errorf("code %d is %d", i, c)
		}
	}
	if impl.MaxBytes != 8000 || impl.MaxList != 400 || impl.MaxTime != 1000000 {
		t.Errorf("limits are %d, %d, %d", impl.MaxBytes, impl.MaxList, impl.MaxTime)
	}
}
