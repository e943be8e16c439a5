package kernel_test

import (
	"reflect"
	"testing"

	"telamon/api"
	"telamon/kernel"
	"telamon/term"
)

// A Judge tells what the calls tell that are handed the whole context, whatever it has judged ahead.
func TestJudge(t *testing.T) {
	s := signature(t)
	for i, x := range samples() {
		j := kernel.NewJudge(s, 2, much)
		for _, ty := range x.ctx {
			j.Sort(ty)
			j = j.With(ty)
		}
		for range 2 {
			want, e := kernel.Infer(s, 2, x.ctx, x.t, much)
			if got, e2 := j.Infer(x.t); e2 != e || !term.Same(got, want) {
				t.Errorf("%d: Infer: %s, %v, not %s, %v", i, show(got), e2, show(want), e)
			}
			e = kernel.Check(s, 2, x.ctx, x.t, x.ty, much)
			if e2 := j.Check(x.t, x.ty); e2 != e {
				t.Errorf("%d: Check: %v, not %v", i, e2, e)
			}
			l, e := kernel.Sort(s, 2, x.ctx, x.t, much)
			if l2, e2 := j.Sort(x.t); e2 != e || !reflect.DeepEqual(l2, l) {
				t.Errorf("%d: Sort: %v, %v, not %v, %v", i, l2, e2, l, e)
			}
		}
	}
}

// All that a Judge is asked, within whatever variables, has one fuel.
func TestJudgeLeft(t *testing.T) {
	s := signature(t)
	j := kernel.NewJudge(s, 0, 3)
	within := j.With(c("N"))
	for left := range []int{2, 1, 0} {
		if e := within.Check(variable(0), c("Nat")); e != api.OK {
			t.Errorf("%d: %v", left, e)
		}
		if j.Left() != 2-left || within.Left() != 2-left {
			t.Errorf("%d, %d are left, not %d", j.Left(), within.Left(), 2-left)
		}
		within = j.With(c("N"))
	}
	if e := j.Check(c("zero"), c("N")); e != api.ErrFuel {
		t.Errorf("without fuel: %v", e)
	}
}
