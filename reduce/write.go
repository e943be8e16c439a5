package reduce

import (
	"telamon/api"
	"telamon/term"
)

// whnf answers the weak head normal form of c as a term. It was weighed when the last step was made, so that it is not too great.
func (m *machine) whnf(c *cell) api.Term {
	v := m.valueOf(c)
	t := v.written(v.code, 0, 0)
	for a := range v.args.all() {
		t = api.Term{Form: api.TApp, Hid: a.hid, Kids: []api.Term{t, a.arg.written(a.arg.code, 0, 0)}}
	}
	return t
}

// written answers a part of the closure's code as it stands, with what the variables stand for written into it: so many binders of the code are around it, and so many in all.
func (c closure) written(p *part, own, all int) api.Term {
	if p.Form == api.TVar && (p.N >= own || p.N < 0) { // below 0: one of its own, in a cell of its own
		if found := c.find(p.N - own); found != nil {
			return found.written(found.code, 0, all)
		}
		return api.Term{Form: api.TVar, N: p.N - own - c.count + all}
	}
	t := term.Copy(p.Term)
	for i, k := range p.kids {
		b := binders(p.Form, i)
		t.Kids = append(t.Kids, c.written(k, own+b, all+b))
	}
	return t
}

// normalForm is a term without steps, written within so many binders.
type normalForm struct {
	term api.Term
	deep int
}

// normal answers the normal form of c.
func (m *machine) normal(c *cell) api.Term { return m.normalAt(c, 0) }

// normalAt answers the normal form of c, to stand within so many parts. It is found once, whoever asks; but where an index is so great that some binders more may be too many, the terms on the way must be weighed again.
func (m *machine) normalAt(c *cell, parts int) api.Term {
	if n := c.normal; n != nil {
		return m.again(n.term, m.deep-n.deep, 0, parts)
	}
	t := m.normalRow(m.valueOf(c), parts)
	if c.reach < maxIndex/2 {
		c.normal = &normalForm{t, m.deep}
	}
	return t
}

func (m *machine) normalRow(v *value, parts int) api.Term {
	parts += v.args.whole().apps
	t := m.normalHead(v.head, parts)
	for a := range v.args.all() {
		parts--
		app := m.put(api.Term{Form: api.TApp, Hid: a.hid}, parts)
		app.Kids = []api.Term{t, m.normalAt(a.arg, parts+1)}
		t = app
	}
	return t
}

func (m *machine) normalHead(h head, parts int) api.Term {
	t := term.Copy(h.code.Term)
	if t.Form == api.TVar {
		t.N += m.deep - h.count
	}
	t = m.put(t, parts)
	for i := range h.code.kids {
		t.Kids = append(t.Kids, m.normalKid(h, i, parts+1))
	}
	return t
}

func (m *machine) normalKid(h head, i, parts int) api.Term {
	kid, deep := h.inner(i, m.deep), m.deep
	m.deep += binders(h.code.Form, i)
	t := m.normalAt(kid, parts)
	m.deep = deep
	return t
}

// again answers t once more, with by more at its free indices; so many of its own binders are around it.
func (m *machine) again(t api.Term, by, own, parts int) api.Term {
	kids := t.Kids
	t.Kids = nil
	out := term.Copy(t)
	if t.Form == api.TVar && t.N >= own {
		out.N += by
	}
	out = m.put(out, parts)
	for i, k := range kids {
		out.Kids = append(out.Kids, m.again(k, by, own+binders(t.Form, i), parts+1))
	}
	return out
}

// put answers a part of a normal form, to stand within so many parts; it gives up, if term.Check would not take it there.
func (m *machine) put(t api.Term, parts int) api.Term {
	m.room--
	if m.room < 0 || parts >= api.MaxHigh || t.Form == api.TVar && t.N > maxIndex {
		giveUp(api.ErrLong)
	}
	return t
}
