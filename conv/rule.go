package conv

import (
	"slices"

	"telamon/api"
	"telamon/level"
	"telamon/reduce"
)

// pair is two weak head normal forms, within so many new variables.
type pair struct {
	a, b reduce.Value
	deep int
}

// rule answers what is to be asked of a pair, from the left; false, if it is not one whatever is asked.
type rule func(pair) ([]question, bool)

// rules answers the rules of two weak head normal forms of one form, TLams and TPairs aside: those have theirs whatever the other one is.
func rules() [api.TMeta + 1]rule {
	return [api.TMeta + 1]rule{
		api.TVar:   pair.numbers,
		api.TMeta:  pair.numbers,
		api.TSort:  pair.constants,
		api.TConst: pair.constants,
		api.TPi:    pair.kids,
		api.TSigma: pair.kids,
		api.TApp:   pair.rows,
		api.TFst:   pair.projected,
		api.TSnd:   pair.projected,
	}
}

func (p pair) differ() ([]question, bool) { return nil, false }

// bodies asks the bodies of TLams; one that is none is applied to the new variable.
func (p pair) bodies() ([]question, bool) {
	body := func(v reduce.Value) reduce.Cell {
		if v.Form() == api.TLam {
			return v.Kid(1, p.deep)
		}
		return v.Applied(p.deep)
	}
	return []question{{body(p.a), body(p.b), p.deep + 1}}, true
}

// halves asks the parts of TPairs; of one that is none its projections.
func (p pair) halves() ([]question, bool) {
	half := func(v reduce.Value, form int) reduce.Cell {
		if v.Form() == api.TPair {
			return v.Kid(1+form-api.TFst, p.deep)
		}
		return v.Projected(form)
	}
	first := question{half(p.a, api.TFst), half(p.b, api.TFst), p.deep}
	second := question{half(p.a, api.TSnd), half(p.b, api.TSnd), p.deep}
	return []question{first, second}, true
}

func (p pair) numbers() ([]question, bool) { return nil, p.a.Head().N == p.b.Head().N }

// constants holds names and levels against each other; a TSort is a constant without a name.
func (p pair) constants() ([]question, bool) {
	a, b := p.a.Head(), p.b.Head()
	named := a.Form == api.TSort || a.Name == b.Name
	return nil, named && slices.EqualFunc(a.Levels, b.Levels, level.Same)
}

func (p pair) kids() ([]question, bool) {
	return []question{p.kid(0, p.deep), p.kid(1, p.deep+1)}, true
}

func (p pair) projected() ([]question, bool) { return []question{p.kid(0, p.deep)}, true }

// kid is the question of the kids of that place, within so many new variables.
func (p pair) kid(i, deep int) question {
	return question{p.a.Kid(i, p.deep), p.b.Kid(i, p.deep), deep}
}

// rows asks what stands ahead of the arguments that both have, and then these. Where one has more than the other, that is a row against a head.
func (p pair) rows() ([]question, bool) {
	as, bs := p.a.Args(), p.b.Args()
	n := min(len(as), len(bs))
	a, b := len(as)-n, len(bs)-n
	out := []question{{p.a.First(a), p.b.First(b), p.deep}}
	for i := range n {
		out = append(out, question{as[a+i], bs[b+i], p.deep})
	}
	return out, true
}
