package reduce

import (
	"cmp"
	"slices"

	"telamon/api"
)

// part is a part of a term as the machine reads it: its own fields (no Kids among them), its kids, and what is asked of it again and again.
type part struct {
	api.Term
	kids       []*part
	size, high int
	free       int      // the least number above all free indices
	used       []use    // of each free variable; nil, if nobody has asked yet
	means      *meaning // of a constant; nil, if nobody has asked yet
}

// use is how a free variable stands in a part: how often, and, at the most, within how many parts and how many binders.
type use struct{ index, count, parts, binders int }

// read answers the part that t is. A term that the machine has built itself may be of any size.
func read(t api.Term) *part {
	p := &part{Term: t, size: 1}
	p.Kids = nil
	if t.Form == api.TVar {
		p.free = t.N + 1
	}
	for i, kid := range t.Kids {
		k := read(kid)
		p.kids = append(p.kids, k)
		p.size += k.size
		p.high = max(p.high, k.high)
		p.free = max(p.free, k.free-binders(p.Form, i))
	}
	p.high++
	return p
}

// binders answers how many binders a form is around its kid of that place.
func binders(form, kid int) int {
	if kid == 1 && (form == api.TPi || form == api.TLam || form == api.TSigma) {
		return 1
	}
	return 0
}

// uses answers how the free variables of p stand in it, by rising index.
func (p *part) uses() []use {
	if p.used == nil && p.free > 0 {
		p.used = p.counted()
	}
	return p.used
}

// hangs tells whether the kid of that place has the variable that p binds there.
func (p *part) hangs(kid int) bool {
	if binders(p.Form, kid) == 0 {
		return false
	}
	all := p.kids[kid].uses()
	return len(all) > 0 && all[0].index == 0
}

func (p *part) counted() []use {
	if p.Form == api.TVar {
		return []use{{index: p.N, count: 1}}
	}
	var all []use
	for i, k := range p.kids {
		b := binders(p.Form, i)
		for _, u := range k.uses() {
			if u.index >= b {
				all = append(all, use{u.index - b, u.count, u.parts + 1, u.binders + b})
			}
		}
	}
	return gathered(all)
}

// gathered answers the uses by rising index, those of one variable as one.
func gathered(all []use) []use {
	slices.SortFunc(all, func(a, b use) int { return cmp.Compare(a.index, b.index) })
	var out []use
	for _, u := range all {
		last := len(out) - 1
		if last < 0 || out[last].index != u.index {
			out = append(out, u)
			continue
		}
		o := out[last]
		out[last] = use{o.index, o.count + u.count, max(o.parts, u.parts), max(o.binders, u.binders)}
	}
	return out
}
