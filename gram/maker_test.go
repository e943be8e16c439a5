package gram_test

import (
	"math/rand"
	"strconv"
	"strings"

	"telamon/api"
)

// maker writes a file at random, and what it is to come to: it goes by the grammar's rules, from the other side. What it writes is always right, but for how deep it is.
type maker struct {
	*rand.Rand
	text    strings.Builder
	pieces  []string // the text's tokens
	column  int      // of the next byte, from 1 on
	deep    int      // how many expressions, parts and blocks that count are around
	over    int      // where the first one began that is too deep; -1: nowhere
	pending bool     // the next token begins one that is too deep
	budget  int      // how much is still to be written: then all becomes short
	steep   bool     // to be deep, and not broad
	open    bool     // an implicit block of statements has begun that the next line is to end
	first   bool     // the next token begins an implicit block: it may be no brace
	around
}

// around is the blocks around what is written.
type around struct {
	block  int // the column of the innermost implicit one
	bare   int // how many lets without braces there are within the innermost braces
	blocks int
}

func newMaker(r *rand.Rand, budget int) *maker {
	m := &maker{Rand: r, column: 1, over: -1, budget: budget, around: around{block: 1 + r.Intn(3), blocks: 1}}
	m.raw(strings.Repeat(" ", m.block-1))
	return m
}

func (m *maker) raw(s string) {
	m.text.WriteString(s)
	if i := strings.LastIndex(s, "\n"); i >= 0 {
		m.column, s = 1, s[i+1:]
	}
	m.column += len([]rune(s))
}

// gap parts two tokens; a line that it begins goes on with what the one ahead of it began.
func (m *maker) gap() {
	switch m.Intn(12) {
	case 0:
		m.raw(strings.Repeat(" ", 1+m.Intn(3)))
	case 1:
		m.raw("\n" + strings.Repeat(" ", m.block+m.Intn(3)))
	case 2:
		m.raw(" -- ) }\n\n" + strings.Repeat(" ", m.block))
	default:
		m.raw(" ")
	}
}

// put writes a token, and tells where it begins.
func (m *maker) put(s string) int {
	at := m.text.Len()
	if m.pending && m.over < 0 {
		m.over = at
	}
	m.pending, m.first = false, false
	m.pieces = append(m.pieces, s)
	m.raw(s)
	m.budget--
	return at
}

// next writes a token behind another one.
func (m *maker) next(s string) int {
	m.gap()
	return m.put(s)
}

func (m *maker) deeper() {
	m.deep++
	m.pending = m.pending || m.deep > 60
}

func (m *maker) name() string {
	return strings.Split("a b x zero A.B _+_ if_then_ + :: \u00e9 wheres __", " ")[m.Intn(12)]
}

func (m *maker) names() []string {
	l := []string{m.name()}
	for m.Intn(3) == 0 {
		l = append(l, m.name())
	}
	return l
}

// few is a number of things, small the more there is already.
func (m *maker) few(most int) int {
	if m.budget < 0 || m.steep && m.Intn(8) > 0 {
		return 0
	}
	return m.Intn(most + 1)
}

func (m *maker) binder() string {
	if m.Intn(4) == 0 {
		return "_"
	}
	return m.name()
}

// bind writes a bind behind a gap that stands already; it tells where it begins.
func (m *maker) bind() (int, []api.Bind) {
	hid := m.Intn(2) == 0
	signs := "()"
	if hid {
		signs = "{}"
	}
	at := m.put(signs[:1])
	l := []api.Bind{{Name: m.binder(), Hid: hid}}
	for m.budget > 0 && m.Intn(6+m.deep) == 0 { // each name has a copy of all that stands within
		l = append(l, api.Bind{Name: m.binder(), Hid: hid})
	}
	for i := range l {
		m.gap()
		m.put(l[i].Name)
	}
	m.next(":")
	ty := m.nextExp()
	m.next(signs[1:])
	for i := range l {
		l[i].Type = ty
	}
	return at, l
}

func (m *maker) binds(most int) []api.Bind {
	var all []api.Bind
	for range m.few(most) {
		m.gap()
		_, l := m.bind()
		all = append(all, l...)
	}
	return all
}

func (m *maker) nextExp() api.Exp {
	m.gap()
	x, _ := m.exp()
	return x
}

// exp writes an expression, and tells where it begins (what it comes to may begin behind a bracket).
func (m *maker) exp() (api.Exp, int) {
	m.deeper()
	defer func() { m.deep-- }()
	switch n := m.Intn(20); {
	case m.budget < 0:
	case n == 0 || m.steep && n == 9:
		return m.lambda()
	case n == 1 && m.blocks < 30:
		return m.let()
	case n < 4:
		return m.bound()
	case n < 8:
		return m.arrow()
	}
	return m.row(true)
}

// wrapped is x under binders, each of them with what is begun at that place.
func wrapped(form, at int, l []api.Bind, x api.Exp) api.Exp {
	if len(l) == 0 {
		return x
	}
	return api.Exp{Form: form, At: at, Binds: l[:1:1], Kids: []api.Exp{wrapped(form, at, l[1:], x)}}
}

func (m *maker) lambda() (api.Exp, int) {
	at := m.put([]string{"\\", "\u03bb"}[m.Intn(2)])
	var all []api.Bind
	for range 1 + m.few(2) {
		m.gap()
		switch m.Intn(3) {
		case 0:
			_, l := m.bind()
			all = append(all, l...)
		case 1:
			m.put("{")
			all = append(all, api.Bind{Name: m.binder(), Hid: true})
			m.next(all[len(all)-1].Name)
			m.next("}")
		default:
			all = append(all, api.Bind{Name: m.binder()})
			m.put(all[len(all)-1].Name)
		}
	}
	m.next("->")
	return wrapped(api.XLam, at, all, m.nextExp()), at
}

func (m *maker) let() (api.Exp, int) {
	at := m.put("let")
	braces := m.bare == 0 && m.Intn(2) == 0
	was := m.around
	m.blocks++
	m.gap()
	if braces {
		m.put("{")
		m.bare = 0
		m.gap()
	} else {
		m.block = m.column
		m.bare++
	}
	defs := []api.Exp{m.def()}
	for range m.few(2) {
		if !braces && m.Intn(2) == 0 {
			m.raw("\n" + strings.Repeat(" ", m.block-1))
		} else {
			m.next(";")
			m.gap()
		}
		defs = append(defs, m.def())
	}
	if braces {
		m.next("}")
	}
	m.next("in")
	m.around = was
	out := m.nextExp()
	for i := range defs {
		d := defs[len(defs)-1-i]
		d.Kids = append(d.Kids, out)
		out = d
	}
	out.At = at
	return out, at
}

func (m *maker) def() api.Exp {
	x := api.Exp{Form: api.XLet, Name: m.name()}
	x.At = m.put(x.Name)
	m.next(":")
	x.Kids = append(x.Kids, m.nextExp())
	m.next("=")
	x.Kids = append(x.Kids, m.nextExp())
	return x
}

func (m *maker) bound() (api.Exp, int) {
	at, l := m.bind()
	if m.Intn(3) == 0 {
		m.next("**")
		return wrapped(api.XSigma, at, l, m.nextExp()), at
	}
	l = append(l, m.binds(2)...)
	m.next([]string{"->", "\u2192"}[m.Intn(2)])
	return wrapped(api.XPi, at, l, m.nextExp()), at
}

func (m *maker) arrow() (api.Exp, int) {
	x, at := m.row(false)
	l := []api.Bind{{Name: "_", Type: x}}
	if m.Intn(3) == 0 {
		m.next("**")
		return wrapped(api.XSigma, at, l, m.nextExp()), at
	}
	m.next("->")
	return wrapped(api.XPi, at, l, m.nextExp()), at
}

// row writes a raw; its last part may be a lambda or a let, if it may.
func (m *maker) row(mayHead bool) (api.Exp, int) {
	first, at := m.part()
	l := []api.Exp{first}
	for range m.few(3) {
		m.gap()
		x, _ := m.part()
		l = append(l, x)
	}
	if mayHead && m.budget > 0 && m.Intn(12) == 0 {
		m.gap()
		m.deeper()
		var x api.Exp
		if m.Intn(2) == 0 || m.blocks >= 30 {
			x, _ = m.lambda()
		} else {
			x, _ = m.let()
		}
		m.deep--
		l = append(l, x)
	}
	if len(l) == 1 && first.Form != api.XHid {
		return first, at
	}
	return api.Exp{Form: api.XRaw, At: at, Kids: l}, at
}

// part writes a part, and tells where it begins.
func (m *maker) part() (api.Exp, int) {
	n := m.Intn(16)
	switch {
	case m.budget < 0:
		n = 15
	case m.steep && m.Intn(60) > 0:
		n = 4 + m.Intn(7)
	}
	if m.first && (n == 7 || n == 8) {
		n = 4
	}
	switch n {
	case 0:
		at := m.put("_")
		return api.Exp{Form: api.XHole, At: at}, at
	case 1:
		at := m.put("Set")
		return api.Exp{Form: api.XSet, N: -1, At: at}, at
	case 2:
		at, n := m.put("Set"), m.Intn(1000)
		m.next(strings.Repeat("0", m.Intn(2)) + strconv.Itoa(n))
		return api.Exp{Form: api.XSet, N: n, At: at}, at
	case 3:
		at := m.put("(")
		m.next(")")
		return api.Exp{Form: api.XNone, At: at}, at
	case 4, 5, 6:
		return m.round()
	case 7, 8:
		at := m.put("{")
		x := m.nextExp()
		m.next("}")
		return api.Exp{Form: api.XHid, At: at, Kids: []api.Exp{x}}, at
	case 9, 10:
		form := api.XFst + n - 9
		at := m.put([]string{"fst", "snd"}[n-9])
		m.gap()
		m.deeper()
		x, _ := m.part()
		m.deep--
		return api.Exp{Form: form, At: at, Kids: []api.Exp{x}}, at
	}
	name := m.name()
	at := m.put(name)
	return api.Exp{Form: api.XName, Name: name, At: at}, at
}

func (m *maker) round() (api.Exp, int) {
	at := m.put("(")
	l := []api.Exp{m.nextExp()}
	for m.budget > 0 && m.Intn(3) == 0 {
		m.next(",")
		l = append(l, m.nextExp())
	}
	m.next(")")
	if len(l) == 1 {
		return l[0], at
	}
	out := paired(l)
	out.At = at
	return out, at
}

func paired(l []api.Exp) api.Exp {
	if len(l) == 1 {
		return l[0]
	}
	return api.Exp{Form: api.XPair, At: l[0].At, Kids: []api.Exp{l[0], paired(l[1:])}}
}

// several writes a block of what one writes, within braces or by columns.
func (m *maker) several(one func() api.Stmt) []api.Stmt {
	var l []api.Stmt
	was := m.around
	m.blocks++
	m.gap()
	if m.Intn(2) == 0 {
		m.put("{")
		for range m.few(3) {
			m.gap()
			l = append(l, one())
			m.behind(";")
		}
		if m.Intn(2) == 0 {
			m.gap()
			l = append(l, one())
		}
		m.behind("}")
	} else {
		m.block, m.first = m.column, true
		l = m.lines(one)
		m.open = true
	}
	m.around = was
	return l
}

// behind writes a token that the implicit blocks within what was written last are to end ahead of: on a line that stands further left than they do.
func (m *maker) behind(s string) {
	if !m.open {
		m.next(s)
		return
	}
	m.open = false
	m.raw("\n" + strings.Repeat(" ", m.block-1))
	m.put(s)
}

// lines writes one and more, from the block's column on.
func (m *maker) lines(one func() api.Stmt) []api.Stmt {
	l := []api.Stmt{one()}
	for range m.few(4) {
		switch n := m.Intn(4); {
		case n == 0 && !m.open:
			m.next(";")
			m.gap()
		case n == 1:
			m.next(";")
			m.raw("\n\n" + strings.Repeat(" ", m.block-1))
		default:
			m.raw(" -- x\n" + strings.Repeat(" ", m.block-1))
		}
		m.open = false
		l = append(l, one())
	}
	return l
}

func (m *maker) sig() api.Stmt {
	s := api.Stmt{Form: api.SType, Names: m.names()}
	s.At = m.put(s.Names[0])
	for _, n := range s.Names[1:] {
		m.next(n)
	}
	m.next(":")
	s.Exp = m.nextExp()
	return s
}

func (m *maker) item() api.Stmt {
	m.open = false
	n := m.Intn(20)
	if m.blocks > 20 || m.budget < 0 {
		n = 19
	}
	switch n {
	case 0:
		return m.data()
	case 1:
		s := api.Stmt{Form: api.SPost, At: m.put("postulate")}
		s.Sub = m.several(m.sig)
		return s
	case 2, 3:
		return m.module(n == 2)
	case 4, 5:
		return m.opening()
	case 6:
		return m.fixity()
	case 7, 8, 9, 10:
		return m.sig()
	}
	s := api.Stmt{Form: api.SClause}
	s.Left, s.At = m.row(true)
	if m.Intn(6) > 0 {
		m.next("=")
		s.Exp = m.nextExp()
	}
	return s
}

func (m *maker) data() api.Stmt {
	s := api.Stmt{Form: api.SData, At: m.put("data"), Name: m.name()}
	m.next(s.Name)
	s.Binds = m.binds(2)
	m.next(":")
	s.Exp = m.nextExp()
	m.next("where")
	s.Sub = m.several(m.sig)
	return s
}

func (m *maker) module(private bool) api.Stmt {
	var s api.Stmt
	if private {
		s = api.Stmt{Form: api.SPriv, At: m.put("private")}
	} else {
		s = api.Stmt{Form: api.SModule, At: m.put("module"), Name: m.name()}
		m.next(s.Name)
		s.Binds = m.binds(2)
		m.next("where")
	}
	m.deeper()
	s.Sub = m.several(m.item)
	m.deep--
	return s
}

func (m *maker) opening() api.Stmt {
	s := api.Stmt{Form: api.SOpen, At: m.put("open"), Name: m.name()}
	m.next(s.Name)
	if m.Intn(2) == 0 {
		s.Only, s.Using = true, m.inBrackets("using")
	}
	if m.Intn(2) == 0 {
		s.Hiding = m.inBrackets("hiding")
	}
	if m.Intn(2) == 0 {
		m.next("renaming")
		m.next("(")
		for i := range m.few(3) {
			if i > 0 {
				m.next(";")
			}
			r := [2]string{m.name(), m.name()}
			m.next(r[0])
			m.next("to")
			m.next(r[1])
			s.Renaming = append(s.Renaming, r)
		}
		m.next(")")
	}
	return s
}

func (m *maker) inBrackets(word string) []string {
	var l []string
	m.next(word)
	m.next("(")
	for i := range m.few(3) {
		if i > 0 {
			m.next(";")
		}
		l = append(l, m.name())
		m.next(l[i])
	}
	m.next(")")
	return l
}

func (m *maker) fixity() api.Stmt {
	s := api.Stmt{Form: api.SFix, Assoc: []string{"", "l", "r"}[m.Intn(3)], N: m.Intn(200), Names: m.names()}
	s.At = m.put("infix" + s.Assoc)
	m.next(strconv.Itoa(s.N))
	for _, n := range s.Names {
		m.next(n)
	}
	return s
}
