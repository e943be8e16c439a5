package data

import (
	"telamon/api"
	"telamon/elim"
	"telamon/kernel"
	"telamon/sig"
)

// candidate is a declaration that is to be let into a signature, and what its checks have found so far: each of them leans on those ahead of it.
type candidate struct {
	sig    *sig.Sig
	decl   api.Decl
	judge  kernel.Judge // of what has no free variables; all fuel that is left is its own
	params []api.Term
	sort   api.Level
}

func newCandidate(s *sig.Sig, d api.Decl, fuel int) *candidate {
	return &candidate{sig: s, decl: d, judge: kernel.NewJudge(s, d.Levels, fuel)}
}

// checks answers what is asked of the candidate, in order.
func (c *candidate) checks() []func() api.Errno {
	all := []func() api.Errno{c.put, c.typed}
	switch c.decl.Kind {
	case api.DDef:
		return append(all, c.valued)
	case api.DData:
		return append(all, c.parted, c.known, c.built)
	}
	return all
}

// put asks what sig.Put would say.
func (c *candidate) put() api.Errno { return c.sig.Would(c.decl) }

// typed asks whether the type is one.
func (c *candidate) typed() api.Errno {
	_, e := c.judge.Sort(c.decl.Type)
	return e
}

// valued asks whether the value is of the type.
func (c *candidate) valued() api.Errno { return c.judge.Check(c.decl.Value, c.decl.Type) }

// parted takes the type of a family apart.
func (c *candidate) parted() (e api.Errno) {
	c.params, _, c.sort, e = elim.Parts(c.with())
	return e
}

// known lets the judge know of the family, so that it can judge the types of the constructors, but not of these.
func (c *candidate) known() api.Errno {
	s := c.sig.Copy()
	e := s.Put(c.with())
	c.judge = kernel.NewJudge(s, c.decl.Levels, c.judge.Left())
	return e
}

// with answers the family with these of its constructors alone.
func (c *candidate) with(ctors ...api.Ctor) api.Decl {
	d := c.decl
	d.Ctors = ctors
	return d
}
