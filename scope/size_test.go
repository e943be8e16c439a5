package scope

import (
	"testing"

	"telamon/api"
)

// What would be beyond the bound is refused ahead of being made. (To come there from nothing would take all the memory.)
func TestP1603Bound(t *testing.T) {
	top, name := api.Exp{Form: api.XName, Name: "Top", At: 1}, api.Exp{Form: api.XName, Name: "a", At: 2}
	post := func(name string, x api.Exp) api.Stmt {
		return api.Stmt{Form: api.SPost, Sub: []api.Stmt{{Form: api.SType, Names: []string{name}, Exp: x, At: 3}}}
	}
	l := []api.Stmt{{Form: api.SModule, Name: "M", Binds: []api.Bind{{Name: "x", Type: top}, {Name: "y", Type: top}}, Sub: []api.Stmt{post("a", top), post("b", name)}}}
	// Two parameters, twice again; two types, of which one is applied twice.
	const all = 2 + 2*2 + 1 + 1 + 2*2
	for left, want := range map[int]int{all: 0, all - 1: 3, all - 2: 3, all - 3: 2, all - 7: 2, all - 8: 3, all - 9: 3, all - 10: 1, 1: 1, 0: 1} {
		s := newScope()
		s.exps = mostExps - left
		err := s.items(l)
		if want == 0 {
			if err != nil || len(s.out) != 2 {
				t.Errorf("P1603: %v", err)
			}
			continue
		}
		if at, e := told(err); at != want || e != api.ErrLong {
			t.Errorf("P1603: %d left: %d, %v, not %d", left, at, e, want)
		}
	}
	// Each declaration stands within the parameters.
	for _, sub := range [][]api.Stmt{
		{{Form: api.SType, Names: []string{"f"}, Exp: top, At: 3}, {Form: api.SClause, Left: api.Exp{Form: api.XName, Name: "f"}}},
		{{Form: api.SData, Name: "D", Exp: top, At: 3}},
	} {
		s := newScope()
		s.exps = mostExps - 2 - 1 - 1
		if at, e := told(s.items([]api.Stmt{{Form: api.SModule, Name: "M", Binds: l[0].Binds, Sub: sub}})); at != 3 || e != api.ErrLong {
			t.Errorf("P1603: %d, %v", at, e)
		}
	}
	if out, _, e := Resolve(l); len(out) != 2 || e != api.OK {
		t.Errorf("P1603: %v", e)
	}
}

// Errors have words of their own, too, for those who look at them here.
func TestP1601Errors(t *testing.T) {
	if s := refused(7, api.ErrClash).Error(); s != "error 46 at 7" {
		t.Error(s)
	}
	if s := (fault{9, twofold{meaning{global: global{name: "M.a"}}}}).Error(); s != "M.a or another one at 9" {
		t.Error(s)
	}
	if at, e := told(fault{3, nil}); at != 3 || e != api.ErrScope {
		t.Errorf("%d, %v", at, e)
	}
}
