package lex

import (
	"strings"

	"telamon/api"
)

const maxDigits = 9

// word is what a token's Text is where the word stands: two signs have another way of being written.
type word struct{ text string }

func words() map[string]word {
	table := map[string]word{"\u2192": {"->"}, "\u03bb": {`\`}}
	for _, w := range strings.Fields(`module where data let in open using hiding renaming to private postulate infix infixl infixr Set fst snd : = -> \ ** _`) {
		table[w] = word{w}
	}
	return table
}

// run is a row of runes between two places where tokens part: one token.
type run struct {
	text  string
	words map[string]word
}

// told is the token's kind and Text, or what is wrong with the run as a whole: what is neither of the first two is to be a name.
func (r run) told() (int, string, api.Errno) {
	for _, asked := range []func() (int, string, api.Errno){r.word, r.number} {
		if kind, text, e := asked(); kind != 0 || e != api.OK {
			return kind, text, e
		}
	}
	return r.name()
}

func (r run) word() (int, string, api.Errno) {
	if w, ok := r.words[r.text]; ok {
		return api.KWord, w.text, api.OK
	}
	return 0, "", api.OK
}

func (r run) number() (int, string, api.Errno) {
	switch {
	case strings.ContainsFunc(r.text, noDigit):
		return 0, "", api.OK
	case len(r.text) > maxDigits:
		return 0, "", api.ErrToken
	}
	return api.KNum, r.own(), api.OK
}

func noDigit(c rune) bool { return c < '0' || c > '9' }

func (r run) name() (int, string, api.Errno) {
	switch {
	case len(r.text) > api.MaxName:
		return 0, "", api.ErrLong
	case strings.HasPrefix(r.text, "."), strings.HasSuffix(r.text, "."), strings.Contains(r.text, ".."):
		return 0, "", api.ErrToken
	}
	return api.KName, r.own(), api.OK
}

// own is the run's text in memory of its own: a token that is kept would else keep the whole file.
func (r run) own() string { return strings.Clone(r.text) }
