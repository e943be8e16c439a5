package layout_test

import (
	"slices"

	"telamon/api"
)

// A second reading of the chapter: a call for each block, which goes on until the block ends. It knows nothing of the first one, nor of the limit of tokens.

type fault struct {
	at int
	e  api.Errno
}

// place is a block and those around it.
type place struct {
	explicit, let bool
	column        int
	outer         *place
}

func (p *place) deep() int {
	if p == nil {
		return 0
	}
	return 1 + p.outer.deep()
}

func (p *place) implicitColumn() int {
	for p.explicit {
		p = p.outer
	}
	return p.column
}

func (p *place) endsByIn() bool {
	return p != nil && !p.explicit && (p.let || p.outer.endsByIn())
}

func (p *place) withinExplicit() bool {
	return p != nil && (p.explicit || p.outer.withinExplicit())
}

type reading struct {
	l       []api.Token
	at      int
	out     []api.Token
	lineWas bool // rule 1 is over for this token
	inWas   bool // rule 2 is over for this token
}

func (r *reading) here() api.Token { return r.l[r.at] }

func (r *reading) add(kind int, text string) {
	t := r.here()
	r.out = append(r.out, api.Token{Kind: kind, Text: text, At: t.At, Line: t.Line, Col: t.Col})
}

func (r *reading) next() {
	r.at++
	r.lineWas, r.inWas = r.l[r.at].Line == r.l[r.at-1].Line || r.l[r.at].Kind == api.KEnd, false
}

func (r *reading) fail(e api.Errno) { panic(fault{r.here().At, e}) }

func (r *reading) is(texts ...string) bool {
	return r.here().Kind == api.KWord && slices.Contains(texts, r.here().Text)
}

// over: does the block end ahead of this token, by the rules 1 to 3?
func (r *reading) over(p *place) bool {
	if !r.lineWas && !p.explicit && p.column > r.here().Col {
		if p.outer == nil {
			r.fail(api.ErrLayout)
		}
		return true
	}
	if !r.lineWas && !p.explicit && p.column == r.here().Col {
		r.add(api.KSemi, "")
	}
	r.lineWas = true
	if r.is("in") && !r.inWas && p.endsByIn() {
		r.inWas = p.let
		return true
	}
	r.inWas = true
	if r.here().Kind != api.KEnd {
		return false
	}
	if p.withinExplicit() {
		r.fail(api.ErrLayout)
	}
	return true
}

// block reads the tokens of a block, and its end.
func (r *reading) block(p *place) {
	if p.deep() > 60 {
		r.fail(api.ErrLong)
	}
	braces := 0
	for !r.over(p) {
		switch {
		case r.is("}") && p.explicit && braces == 0:
			r.add(api.KClose, "}")
			r.next()
			return
		case r.is("}"):
			braces--
		case r.is("{"):
			braces++
		}
		if r.is(";") {
			r.add(api.KSemi, ";")
		} else {
			r.out = append(r.out, r.here())
		}
		opens, let := r.is("where", "let", "postulate", "private"), r.is("let")
		r.next()
		if opens {
			r.inside(p, let)
		}
	}
	r.add(api.KClose, "")
}

// inside reads what stands behind a word that asks for a block.
func (r *reading) inside(p *place, let bool) {
	if r.is("{") {
		q := &place{explicit: true, outer: p}
		if q.deep() > 60 {
			r.fail(api.ErrLong)
		}
		r.add(api.KOpen, "{")
		r.next()
		r.block(q)
		return
	}
	r.add(api.KOpen, "")
	if r.here().Kind == api.KEnd || r.here().Col <= p.implicitColumn() {
		r.add(api.KClose, "")
		return
	}
	r.lineWas = true
	r.block(&place{let: let, column: r.here().Col, outer: p})
}

// naive is the second reading of Blocks.
func naive(l []api.Token) (out []api.Token, at int, e api.Errno) {
	defer func() {
		if f, ok := recover().(fault); ok {
			out, at, e = nil, f.at, f.e
		}
	}()
	r := &reading{l: l, lineWas: true}
	r.add(api.KOpen, "")
	r.block(&place{column: l[0].Col})
	return append(r.out, r.here()), 0, api.OK
}
