package gram

import "telamon/api"

// parser stands ahead of one of a file's tokens.
type parser struct {
	tokens []api.Token
	next   int
	deep   int // how many expressions, parts and blocks that count it stands within
	size   int // how many expressions are to be in the answer so far
	binds  int // how many binds it stands within
	items  map[string]func() api.Stmt
	heads  map[string]func() api.Exp
	parts  map[string]func() api.Exp
}

func newParser(l []api.Token) *parser {
	p := &parser{tokens: l}
	p.items, p.heads, p.parts = p.itemRules(), p.headRules(), p.partRules()
	return p
}

// begun is an expression of that form, of which nothing is read yet.
func (p *parser) begun(form, at int) api.Exp {
	p.size++
	return api.Exp{Form: form, At: at}
}

func (p *parser) here() api.Token { return p.tokens[p.next] }

// pass goes on behind a token. No rule passes the last one, which ends the file.
func (p *parser) pass() api.Token {
	p.next++
	return p.tokens[p.next-1]
}

// word is the word that comes next, by which a rule is found; empty: a token of another kind.
func (p *parser) word() string {
	if t := p.here(); t.Kind == api.KWord {
		return t.Text
	}
	return ""
}

func (p *parser) is(word string) bool { return p.word() == word }

// took passes the word, if it comes next.
func (p *parser) took(word string) bool {
	if !p.is(word) {
		return false
	}
	p.pass()
	return true
}

func (p *parser) comma() bool { return p.took(",") }

func (p *parser) semi() bool {
	if p.here().Kind != api.KSemi {
		return false
	}
	p.pass()
	return true
}

// must refuses the token that comes next, if it is not as it has to be.
func (p *parser) must(right bool) {
	if !right {
		p.fail(api.ErrToken)
	}
}

func (p *parser) want(word string) { p.must(p.took(word)) }

func (p *parser) wantKind(kind int) api.Token {
	p.must(p.here().Kind == kind)
	return p.pass()
}

func (p *parser) name() string { return p.wantKind(api.KName).Text }

func isName(t api.Token) bool { return t.Kind == api.KName }

func (p *parser) atName() bool { return isName(p.here()) }

// typed: do names stand from that token on, and then a `:`?
func (p *parser) typed(from int, name func(api.Token) bool) bool {
	i := from
	for name(p.tokens[i]) {
		i++
	}
	return i > from && p.tokens[i].Kind == api.KWord && p.tokens[i].Text == ":"
}

// within reads by a rule what counts as one deeper than what is around it.
func within[T any](p *parser, rule func() T) T {
	if p.deep == api.MaxDeep {
		p.fail(api.ErrLong)
	}
	p.deep++
	out := rule()
	p.deep--
	return out
}
