package fix

import (
	"slices"

	"telamon/api"
)

const mostN = 100 // no operator binds tighter

// declared is an operator, and whether a statement has said how it binds.
type declared struct {
	api.Op
	fixed bool
}

type table struct{ *rows[declared] }

func declaredIn(l []api.Stmt) table {
	t := table{newRows[declared]()}
	visit(l, func(s api.Stmt) bool {
		for _, name := range declares(s) {
			t.declare(name)
		}
		return true
	})
	return t
}

// visit shows each statement, those within it right behind it, as long as see says so.
func visit(l []api.Stmt, see func(api.Stmt) bool) bool {
	for i := range l {
		if !see(l[i]) || hasSub(l[i].Form) && !visit(l[i].Sub, see) {
			return false
		}
	}
	return true
}

// declares is the names that a statement declares by itself and that may be operators.
func declares(s api.Stmt) []string {
	switch s.Form {
	case api.SType:
		return s.Names
	case api.SData:
		return []string{s.Name}
	}
	return nil
}

func (t table) declare(name string) {
	if isOperator(name) {
		t.begin(name).Op = operatorOf(name)
	}
}

// judge takes over how operators bind, and tells the first thing that is wrong.
func (t table) judge(l []api.Stmt) (wrong fault) {
	visit(l, func(s api.Stmt) bool {
		if e := t.judgeOne(s); e != api.OK {
			wrong = fault{s.At, e}
		}
		return !wrong.is()
	})
	return wrong
}

func (t table) judgeOne(s api.Stmt) api.Errno {
	if slices.ContainsFunc(declares(s), isBroken) {
		return api.ErrOperator
	}
	if s.Form == api.SFix {
		return t.fix(s)
	}
	return api.OK
}

func (t table) fix(s api.Stmt) api.Errno {
	if s.N > mostN {
		return api.ErrOperator
	}
	if slices.ContainsFunc(s.Names, func(name string) bool { return t.find(name) == nil }) {
		return api.ErrScope
	}
	for _, name := range s.Names {
		d := t.find(name)
		if d.fixed {
			return api.ErrClash
		}
		d.fixed, d.N, d.Assoc = true, s.N, s.Assoc
	}
	return api.OK
}

func (t table) ops() []api.Op {
	var out []api.Op
	for _, d := range t.list {
		out = append(out, d.Op)
	}
	return out
}
