package gram

import "telamon/api"

// headRules are those of what may only be the last part of a raw, or an expression of its own.
func (p *parser) headRules() map[string]func() api.Exp {
	return map[string]func() api.Exp{`\`: p.lambda, "let": p.let}
}

func (p *parser) atHead() bool {
	_, ok := p.heads[p.word()]
	return ok
}

// exp asks whether an expression begins here ahead of asking how deep it is: a token that begins none is wrong at any depth.
func (p *parser) exp() api.Exp {
	p.must(p.atHead() || p.atPart())
	return within(p, p.expRule())
}

func (p *parser) expRule() func() api.Exp {
	if rule, ok := p.heads[p.word()]; ok {
		return rule
	}
	if p.atBind() {
		return p.bound
	}
	return p.arrow
}

func (p *parser) lambda() api.Exp {
	at := p.pass().At
	l := flat(row(p.lbind, p.atLbind))
	p.want("->")
	return p.under(api.XLam, at, l, p.exp())
}

func (p *parser) let() api.Exp {
	at := p.pass().At
	p.wantKind(api.KOpen)
	defs := row(p.def, p.semi)
	p.wantKind(api.KClose)
	p.want("in")
	out := p.exp()
	for i := len(defs) - 1; i >= 0; i-- {
		body := out
		out = defs[i]
		out.Kids = append(out.Kids, body)
	}
	out.At = at
	return out
}

// def reads a definition: a let that has no body yet.
func (p *parser) def() api.Exp {
	x := p.begun(api.XLet, p.here().At)
	x.Name = p.name()
	p.want(":")
	ty := p.exp()
	p.want("=")
	x.Kids = append(make([]api.Exp, 0, 3), ty, p.exp())
	return x
}

// bound reads an expression that begins with a bind.
func (p *parser) bound() api.Exp {
	at := p.here().At
	l := p.bind()
	if p.took("**") {
		return p.under(api.XSigma, at, l, p.exp())
	}
	l = append(l, p.bindRow()...)
	p.want("->")
	return p.under(api.XPi, at, l, p.exp())
}

func (p *parser) arrow() api.Exp {
	at := p.here().At
	x := p.raw()
	nameless := []api.Bind{{Name: "_", Type: x}}
	switch {
	case p.took("->"):
		return p.under(api.XPi, at, nameless, p.exp())
	case p.took("**"):
		return p.under(api.XSigma, at, nameless, p.exp())
	}
	return x
}

// raw reads parts that stand side by side; what they mean together is not known yet.
func (p *parser) raw() api.Exp {
	at := p.here().At
	l := row(p.part, p.atPart)
	if p.atHead() {
		l = append(l, p.exp())
	}
	if len(l) == 1 && l[0].Form != api.XHid {
		return l[0]
	}
	x := p.begun(api.XRaw, at)
	x.Kids = l
	return x
}
