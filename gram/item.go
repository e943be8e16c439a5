package gram

import (
	"strconv"
	"strings"

	"telamon/api"
)

func (p *parser) file() []api.Stmt {
	out := block(p, p.item)
	p.must(p.here().Kind == api.KEnd)
	return out
}

func (p *parser) itemRules() map[string]func() api.Stmt {
	return map[string]func() api.Stmt{
		"data": p.data, "postulate": p.postulate, "private": p.private, "module": p.module, "open": p.open,
		"infix": p.fixity, "infixl": p.fixity, "infixr": p.fixity,
	}
}

// item reads by the rule that its first word tells; where none does, what stands behind its first names tells a type from a clause.
func (p *parser) item() api.Stmt {
	if rule, ok := p.items[p.word()]; ok {
		return rule()
	}
	if p.typed(p.next, isName) {
		return p.sig()
	}
	return p.clause()
}

func (p *parser) data() api.Stmt {
	s := api.Stmt{Form: api.SData, At: p.pass().At}
	s.Name = p.name()
	s.Binds = p.bindRow()
	p.want(":")
	s.Exp = p.exp()
	p.want("where")
	s.Sub = block(p, p.sig)
	return s
}

func (p *parser) postulate() api.Stmt {
	s := api.Stmt{Form: api.SPost, At: p.pass().At}
	s.Sub = block(p, p.sig)
	return s
}

func (p *parser) private() api.Stmt {
	s := api.Stmt{Form: api.SPriv, At: p.pass().At}
	s.Sub = within(p, p.inner)
	return s
}

func (p *parser) module() api.Stmt {
	s := api.Stmt{Form: api.SModule, At: p.pass().At}
	s.Name = p.name()
	s.Binds = p.bindRow()
	p.want("where")
	s.Sub = within(p, p.inner)
	return s
}

func (p *parser) inner() []api.Stmt { return block(p, p.item) }

func (p *parser) open() api.Stmt {
	s := api.Stmt{Form: api.SOpen, At: p.pass().At}
	s.Name = p.name()
	if p.took("using") {
		s.Only, s.Using = true, bracketed(p, p.name)
	}
	if p.took("hiding") {
		s.Hiding = bracketed(p, p.name)
	}
	if p.took("renaming") {
		s.Renaming = bracketed(p, p.renamed)
	}
	return s
}

func (p *parser) renamed() [2]string {
	from := p.name()
	p.want("to")
	return [2]string{from, p.name()}
}

func (p *parser) fixity() api.Stmt {
	word := p.pass()
	s := api.Stmt{Form: api.SFix, Assoc: strings.TrimPrefix(word.Text, "infix"), At: word.At}
	s.N = number(p.wantKind(api.KNum))
	s.Names = row(p.name, p.atName)
	return s
}

// number: no row of digits that is a token is greater than an int is.
func number(t api.Token) int {
	n, _ := strconv.Atoi(t.Text)
	return n
}

func (p *parser) sig() api.Stmt {
	s := api.Stmt{Form: api.SType, At: p.here().At}
	s.Names = row(p.name, p.atName)
	p.want(":")
	s.Exp = p.exp()
	return s
}

func (p *parser) clause() api.Stmt {
	s := api.Stmt{Form: api.SClause, At: p.here().At}
	s.Left = p.raw()
	if p.took("=") {
		s.Exp = p.exp()
	}
	return s
}
