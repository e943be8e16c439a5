package gram

import "telamon/api"

func (p *parser) partRules() map[string]func() api.Exp {
	return map[string]func() api.Exp{
		"_": p.hole, "Set": p.set, "(": p.round, "{": p.hidden, "fst": p.fst, "snd": p.snd,
	}
}

func (p *parser) atPart() bool {
	_, ok := p.parts[p.word()]
	return ok || p.atName()
}

func (p *parser) part() api.Exp {
	if rule, ok := p.parts[p.word()]; ok {
		return rule()
	}
	t := p.wantKind(api.KName)
	x := p.begun(api.XName, t.At)
	x.Name = t.Text
	return x
}

func (p *parser) hole() api.Exp { return p.begun(api.XHole, p.pass().At) }

func (p *parser) set() api.Exp {
	x := p.begun(api.XSet, p.pass().At)
	x.N = -1
	if p.here().Kind == api.KNum {
		x.N = number(p.pass())
	}
	return x
}

// round reads what begins with a round bracket: nothing, an expression, which is that itself, or pairs.
func (p *parser) round() api.Exp {
	at := p.pass().At
	if p.took(")") {
		return p.begun(api.XNone, at)
	}
	l := row(p.exp, p.comma)
	p.want(")")
	if len(l) == 1 {
		return l[0]
	}
	out := p.paired(l)
	out.At = at
	return out
}

// paired: of several parts the last two are a pair, it and the one ahead of it another one, and so on.
func (p *parser) paired(l []api.Exp) api.Exp {
	last := len(l) - 1
	out := l[last]
	for i := last - 1; i >= 0; i-- {
		x := p.begun(api.XPair, l[i].At)
		x.Kids = []api.Exp{l[i], out}
		out = x
	}
	return out
}

func (p *parser) hidden() api.Exp {
	x := p.begun(api.XHid, p.pass().At)
	x.Kids = []api.Exp{p.exp()}
	p.want("}")
	return x
}

func (p *parser) fst() api.Exp { return p.projection(api.XFst) }

func (p *parser) snd() api.Exp { return p.projection(api.XSnd) }

// projection: as with expressions, whether a part begins here comes ahead of how deep it is.
func (p *parser) projection(form int) api.Exp {
	x := p.begun(form, p.pass().At)
	p.must(p.atPart())
	x.Kids = []api.Exp{within(p, p.part)}
	return x
}
