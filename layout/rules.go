package layout

import "telamon/api"

// behindWord begins a block, if the token stands behind a word that asks for one.
func (x *writer) behindWord() api.Errno {
	switch {
	case !asksForBlock(x.ahead):
		return api.OK
	case isWord(x.here, "{"):
		x.here.Kind = api.KOpen
		return x.begin(block{explicit: true})
	}
	x.put(api.KOpen)
	if x.here.Kind == api.KEnd || !x.fits(x.here.Col) {
		x.put(api.KClose)
		return api.OK
	}
	return x.begin(block{column: x.here.Col, let: isWord(x.ahead, "let")})
}

func asksForBlock(t api.Token) bool {
	if t.Kind != api.KWord {
		return false
	}
	switch t.Text {
	case "where", "let", "postulate", "private":
		return true
	}
	return false
}

// line ends and parts blocks by the column of a line's first token. A block that the token began is not asked, and so none is: those around it stand further left, or are explicit.
func (x *writer) line() api.Errno {
	if x.here.Line <= x.ahead.Line || x.here.Kind == api.KEnd || x.begun {
		return api.OK
	}
asking:
	for b := x.inner(); b != nil; b = x.inner() {
		switch {
		case b.explicit || b.column < x.here.Col:
			break asking
		case b.column == x.here.Col:
			x.put(api.KSemi)
			break asking
		case x.depth() == 1:
			return api.ErrLayout
		}
		x.endInner()
	}
	return api.OK
}

func (x *writer) in() api.Errno {
	if isWord(x.here, "in") {
		for range x.throughLet() {
			x.endInner()
		}
	}
	return api.OK
}

func (x *writer) end() api.Errno {
	switch {
	case x.here.Kind != api.KEnd:
		return api.OK
	case x.anyExplicit():
		return api.ErrLayout
	}
	for range x.depth() {
		x.endInner()
	}
	return api.OK
}

// sign turns a sign of the language into layout's where it is one. Braces mean blocks in an explicit block alone: elsewhere they are hidden arguments'.
func (x *writer) sign() api.Errno {
	b := x.inner()
	explicit := b != nil && b.explicit
	switch {
	case isWord(x.here, ";"):
		x.here.Kind = api.KSemi
	case explicit && isWord(x.here, "{"):
		b.braces++
	case explicit && isWord(x.here, "}") && b.braces > 0:
		b.braces--
	case explicit && isWord(x.here, "}"):
		x.pop()
		x.here.Kind = api.KClose
	}
	return api.OK
}
