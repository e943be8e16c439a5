package data

import (
	"slices"

	"telamon/api"
	"telamon/elim"
	"telamon/level"
	"telamon/term"
)

// built asks whether the constructors are such as a family may have: the first one that is not, or argument of one, leaves by the label.
func (c *candidate) built() api.Errno {
	e := api.OK
refused:
	for _, ctor := range c.decl.Ctors {
		args, rec, result, wrong := elim.Ctor(c.with(ctor), 0)
		if e = wrong; e != api.OK {
			break refused
		}
		if _, e = c.judge.Sort(ctor.Type); e != api.OK {
			break refused
		}
		if slices.ContainsFunc(result, c.stands) {
			e = api.ErrPositive
			break refused
		}
		look := c.looker()
		for i, a := range args {
			if e = look(a, slices.Contains(rec, i)); e != api.OK {
				break refused
			}
		}
	}
	return e
}

// stands tells whether the family's name stands anywhere in t.
func (c *candidate) stands(t api.Term) bool { return term.Has(t, c.decl.Name) }

// looker answers what looks at a constructor's arguments: each time it is handed the next one. It keeps the judge of what stands within the params and the arguments that it has seen.
func (c *candidate) looker() func(arg api.Term, recursive bool) api.Errno {
	judge := c.judge
	for _, p := range c.params {
		judge = judge.With(p)
	}
	return func(arg api.Term, recursive bool) api.Errno {
		if !c.positive(arg, recursive) {
			return api.ErrPositive
		}
		l, e := judge.Sort(arg)
		if e == api.OK && !level.Leq(l, c.sort) {
			e = api.ErrUniverse
		}
		judge = judge.With(arg)
		return e
	}
}

// positive tells whether the family's name stands in an argument's type only where it may: as what a recursive one ends in.
func (c *candidate) positive(arg api.Term, recursive bool) bool {
	may := 0
	if recursive {
		may = 1
	}
	return count(arg, c.decl.Name) == may
}

// count answers how often the constant of that name stands in t.
func count(t api.Term, name string) int {
	n := 0
	if t.Form == api.TConst && t.Name == name {
		n++
	}
	for _, k := range t.Kids {
		n += count(k, name)
	}
	return n
}
