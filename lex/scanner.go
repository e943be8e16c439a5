package lex

import (
	"strings"
	"unicode/utf8"

	"telamon/api"
)

// What a scanner is within.
const (
	nothing = iota
	aRun
	aRemark
)

// fault is what is wrong, and where; the zero one is none.
type fault struct {
	at int
	e  api.Errno
}

// scanner takes the runes of a text one by one.
type scanner struct {
	text   string
	words  map[string]word
	tokens []api.Token
	here   api.Token // the place of the rune that is taken
	begun  api.Token // the place of the run's first rune
	within int
}

func (x *scanner) step(r rune) fault {
	if x.broken(r) {
		return fault{x.here.At, api.ErrUTF}
	}
	f := x.take(r)
	x.pass(r)
	return f
}

// broken: a range over a string tells a byte that begins no rune as RuneError, which may as well stand there as a rune of its own, of three bytes.
func (x *scanner) broken(r rune) bool {
	if r != utf8.RuneError {
		return false
	}
	_, size := utf8.DecodeRuneInString(x.text[x.here.At:])
	return size == 1
}

func (x *scanner) take(r rune) fault {
	switch {
	case x.within == aRemark:
		if r == '\n' {
			x.within = nothing
		}
	case control(r):
		return fault{x.here.At, api.ErrToken}
	case r == ' ' || r == '\n':
		return x.endRun()
	case single(r):
		if f := x.endRun(); f.e != api.OK {
			return f
		}
		return x.put(x.here, api.KWord, string(r))
	case x.within == nothing:
		x.begin()
	}
	return fault{}
}

func control(r rune) bool { return r < 32 && r != '\n' || r == 127 }

func single(r rune) bool { return strings.ContainsRune("(){};,", r) }

func (x *scanner) begin() {
	if strings.HasPrefix(x.text[x.here.At:], "--") {
		x.within = aRemark
		return
	}
	x.within, x.begun = aRun, x.here
}

func (x *scanner) endRun() fault {
	if x.within != aRun {
		return fault{}
	}
	x.within = nothing
	kind, text, e := run{x.text[x.begun.At:x.here.At], x.words}.told()
	if e != api.OK {
		return fault{x.begun.At, e}
	}
	return x.put(x.begun, kind, text)
}

// end is told where the text ends.
func (x *scanner) end() fault {
	if f := x.endRun(); f.e != api.OK {
		return f
	}
	return x.put(x.here, api.KEnd, "")
}

func (x *scanner) put(place api.Token, kind int, text string) fault {
	if len(x.tokens) == api.MaxTokens {
		return fault{place.At, api.ErrLong}
	}
	place.Kind, place.Text = kind, text
	x.tokens = append(x.tokens, place)
	return fault{}
}

func (x *scanner) pass(r rune) {
	x.here.Col++
	if r == '\n' {
		x.here.Line, x.here.Col = x.here.Line+1, 1
	}
}
