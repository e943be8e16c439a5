package elim_test

import (
	"fmt"
	"math/rand"
	"testing"

	"telamon/api"
	"telamon/elim"
)

// random answers a term of all forms, with about that many parts, in the scope of that many variables and of some more outside.
func random(r *rand.Rand, parts, scope int) api.Term {
	if parts <= 1 {
		leaves := []api.Term{variable(r.Intn(scope + 2)), variable(r.Intn(scope + 1)), {Form: api.TMeta, N: 2}, set(), sort(param(1, 2)), c("c"), at("D", own(r.Intn(3))), at("d", []api.Level{param(0, 1), {N: 4}})}
		return leaves[r.Intn(len(leaves))]
	}
	half := parts / 2
	var t api.Term
	switch r.Intn(6) {
	case 0:
		t = of(api.TSnd, random(r, parts-1, scope))
	case 1:
		t = of(api.TPair, of(api.TSigma, random(r, parts/4, scope), random(r, parts/4, scope+1)), random(r, parts/4, scope), random(r, parts/4, scope))
	case 2, 3:
		t = of(api.TApp, random(r, half, scope), random(r, half, scope))
	case 4:
		t = of(api.TPi, random(r, half, scope), random(r, half, scope+1))
	case 5:
		t = of(api.TLam, random(r, half, scope), random(r, half, scope+1))
	}
	t.Hid = t.Form != api.TSnd && t.Form != api.TPair && r.Intn(2) == 0
	return t
}

// telescope answers n types, each in the scope of those ahead of it and of scope more.
func telescope(r *rand.Rand, n, scope int) []api.Term {
	var l []api.Term
	for i := range n {
		l = append(l, random(r, 1+r.Intn(6), scope+i))
	}
	return l
}

// someHid turns Hids of the TPis and TApps that t begins with.
func someHid(r *rand.Rand, t api.Term) api.Term {
	switch t.Form {
	case api.TPi:
		t = of(api.TPi, t.Kids[0], someHid(r, t.Kids[1]))
		t.Hid = r.Intn(3) == 0
	case api.TApp:
		t = of(api.TApp, someHid(r, t.Kids[0]), t.Kids[1])
		t.Hid = r.Intn(3) == 0
	}
	return t
}

// anyHid turns Hids of all parts of each of l: they are set where a form has none, too.
func anyHid(r *rand.Rand, l []api.Term) []api.Term {
	var out []api.Term
	for _, t := range l {
		out = append(out, mapped(t, func(x api.Term) api.Term {
			x.Hid = r.Intn(2) == 0
			return x
		}))
	}
	return out
}

// maker makes families of one shape: levels, how many params and indices.
type maker struct {
	*rand.Rand
	levels, params, indices int
}

// instance answers D params idx, with that many binders behind the params around it.
func (m maker) instance(behind int) api.Term {
	t := at("D", own(m.levels))
	for i := range m.params {
		t = app(t, variable(behind+m.params-1-i))
	}
	for range m.indices {
		t = app(t, random(m.Rand, 1+m.Intn(4), m.params+behind))
	}
	return someHid(m.Rand, t)
}

// spoilt answers something like an instance that is none.
func (m maker) spoilt(behind int) api.Term {
	t := m.instance(behind)
	switch m.Intn(4) {
	case 0:
		return app(t, variable(0))
	case 1:
		return c("List", t)
	case 2:
		return m.otherHead(t)
	}
	if t.Form == api.TApp {
		return t.Kids[0]
	}
	return of(api.TFst, t)
}

func (m maker) otherHead(t api.Term) api.Term {
	if t.Form == api.TApp {
		return app(m.otherHead(t.Kids[0]), t.Kids[1])
	}
	return at("D", own(m.levels+1))
}

// arg answers a type of an argument behind that many others, and whether it is recursive.
func (m maker) arg(behind int) (api.Term, bool) {
	zs := telescope(m.Rand, m.Intn(4), m.params+behind)
	switch m.Intn(4) {
	case 0:
		return of(api.TSnd, random(m.Rand, 1+m.Intn(8), m.params+behind)), false
	case 1:
		return someHid(m.Rand, pis(zs, m.spoilt(behind+len(zs)))), false
	}
	return someHid(m.Rand, pis(zs, m.instance(behind+len(zs)))), true
}

// family answers a family, and of each constructor which arguments are recursive.
func (m maker) family() (api.Decl, [][]int) {
	all := telescope(m.Rand, m.params+m.indices, 0)
	d := family("D", m.levels, m.params, someHid(m.Rand, pis(all, sort(param(m.Intn(3), m.Intn(3))))))
	var recs [][]int
	for k := range m.Intn(4) {
		var args []api.Term
		var rec []int
		for i := range m.Intn(5) {
			a, is := m.arg(i)
			args = append(args, a)
			if is {
				rec = append(rec, i)
			}
		}
		ty := pis(anyHid(m.Rand, all[:m.params]), pis(args, m.instance(len(args))))
		d.Ctors = append(d.Ctors, ctor(fmt.Sprint("k", k), someHid(m.Rand, ty)))
		recs = append(recs, rec)
	}
	return d, recs
}

// Families of all shapes, also such with variables that are bound nowhere, held against the second reading, by names.
func TestP601P602AtRandom(t *testing.T) {
	r := rand.New(rand.NewSource(6))
	for range 1500 {
		m := maker{r, r.Intn(3), r.Intn(4), r.Intn(3)}
		d, recs := m.family()
		agrees(t, d)
		for k, rec := range recs {
			_, got, _, e := elim.Ctor(d, k)
			if e != api.OK || fmt.Sprint(got) != fmt.Sprint(rec) {
				t.Errorf("%+v: %v, %v, not %v", d, got, e, rec)
			}
		}
		if t.Failed() {
			return
		}
	}
}

// Indices may be up to 2^30: what stays in its place is told, what would come above that is too great.
func TestP602GreatIndices(t *testing.T) {
	top := variable(1 << 30)
	under := variable(1<<30 - 1)
	told := map[api.Errno]int{}
	for _, x := range []api.Term{top, under, variable(1<<30 - 2), variable(1<<30 - 5)} {
		for params := range 3 {
			for i := range 2 {
				l := []api.Term{set(), set()}
				l[i] = x
				bare := family("D", 0, params, pis(l, set()))
				agrees(t, bare)
				_, e := elim.Type(bare)
				told[e]++
			}
		}
		arg := family("D", 0, 0, set(), ctor("k", arrow(set(), c("D"))))
		arg.Ctors[0].Type.Kids[0] = x
		agrees(t, arg)
		arg.Ctors[0].Type.Kids[0] = of(api.TPi, x, c("D"))
		agrees(t, arg)
		agrees(t, family("D", 0, 0, pis([]api.Term{set()}, set()), ctor("k", c("D", x))))
	}
	if len(told) != 2 || told[api.OK] == 0 || told[api.ErrLong] == 0 {
		t.Errorf("%v", told)
	}
}
