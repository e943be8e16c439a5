package reduce

import (
	"telamon/api"
	"telamon/bytes"
	"telamon/elim"
	"telamon/sig"
	"telamon/term"
)

// meaning is what a constant means by its levels.
type meaning struct {
	api.Term // the constant
	kind     int
	decl     api.Decl
	family   *family // of constructors and eliminators
	value    *part   // of a definition that was unfolded
	rules    []*part // of an eliminator, by constructors: nil, if there was none yet to make a step with
}

// meaning answers what the constant p means.
func (m *machine) meaning(p *part) *meaning {
	if p.means == nil {
		p.means = m.meaningOf(p.Term)
	}
	return p.means
}

// meaningOf answers what a constant means, which is found once; but one with so many levels that it has no bytes each time that it is read.
func (m *machine) meaningOf(constant api.Term) *meaning {
	key, e := bytes.Term(constant)
	if e != api.OK {
		return m.newMeaning(constant)
	}
	if m.meanings[string(key)] == nil {
		m.meanings[string(key)] = m.newMeaning(constant)
	}
	return m.meanings[string(key)]
}

func (m *machine) newMeaning(constant api.Term) *meaning {
	out := &meaning{Term: constant}
	out.decl, out.kind = m.sig.Get(constant.Name)
	if out.decl.Kind == api.DData {
		out.family = m.family(out.decl)
		out.rules = make([]*part, len(out.decl.Ctors))
	}
	return out
}

// unfolds tells whether it is a definition, with as many levels as it has parameters.
func (c *meaning) unfolds() bool {
	_, _, def, _, _, _ := sig.Kinds()
	return c.kind == def && len(c.Levels) == c.decl.Levels
}

// body answers the value of a definition by these levels.
func (c *meaning) body() *part {
	if c.value == nil {
		c.value = read(byLevels(c.decl.Value, c.Levels))
	}
	return c.value
}

// eliminates tells whether it is an eliminator, with as many levels as it must have, of a family that is one, and of which there may be something.
func (c *meaning) eliminates() bool {
	_, _, _, _, _, eliminator := sig.Kinds()
	return c.kind == eliminator && len(c.Levels) == c.decl.Levels+1 && c.family.taken && len(c.decl.Ctors) > 0
}

// place answers the place of a constructor in its family; false, if it is none.
func (c *meaning) place() (int, bool) {
	_, _, _, _, ctor, eliminator := sig.Kinds()
	return (c.kind - ctor) / 2, c.kind >= ctor && c.kind != eliminator
}

// byLevels answers t by these levels. Where that is no term, either t has a variable without a level, or a level would be too great.
func byLevels(t api.Term, levels []api.Level) api.Term {
	out, e := term.Levels(t, levels)
	if e == api.OK {
		return out
	}
	if _, e = term.Levels(t, make([]api.Level, len(levels))); e == api.OK {
		e = api.ErrLong
	}
	giveUp(e)
	return api.Term{}
}

// family is a family as its eliminator sees it.
type family struct {
	decl            api.Decl
	taken           bool // by elim.Parts
	params, indices int
	ctors           []*ctor // nil, if nobody has asked yet
}

// ctor is a constructor: how many TPis its type has, and what elim.Ctor tells of it.
type ctor struct {
	taken bool
	pis   int
	args  []api.Term
	rec   []int
}

func (m *machine) family(d api.Decl) *family {
	if m.families[d.Name] == nil {
		params, indices, _, e := elim.Parts(d)
		m.families[d.Name] = &family{d, e == api.OK, len(params), len(indices), make([]*ctor, len(d.Ctors))}
	}
	return m.families[d.Name]
}

func (f *family) ctor(k int) *ctor {
	if f.ctors[k] == nil {
		args, rec, _, e := elim.Ctor(f.decl, k)
		f.ctors[k] = &ctor{e == api.OK, f.params + len(args), args, rec}
	}
	return f.ctors[k]
}

// ahead answers how many arguments of the eliminator stand ahead of x.
func (f *family) ahead() int { return f.fixed() + f.indices }

// fixed answers how many of them are the same in all that the eliminator comes to: params, P, methods.
func (f *family) fixed() int { return f.params + 1 + len(f.ctors) }

// built answers which constructor of f with all its arguments v is; false, if it is none.
func (m *machine) built(v *value, f *family) (int, bool) {
	if v.code.Form != api.TConst {
		return 0, false
	}
	c := m.meaning(v.code)
	k, ok := c.place()
	if !ok || c.family != f {
		return 0, false
	}
	is := f.ctor(k)
	return k, is.taken && is.pis == v.args.whole().apps
}

// scope answers what the variables of a rule stand for: params, P and methods of the eliminator's row, and the constructor's args behind its own params.
func (f *family) scope(row, built *row) env {
	e := env{}
	for i := 0; i < f.fixed(); i, row = i+1, row.rest {
		e = e.with(row.arg)
	}
	for a := range built.from(f.params).all() {
		e = e.with(a.arg)
	}
	return e
}
