package lex_test

import (
	"slices"
	"strings"

	"telamon/api"
)

// A second reading of the chapter, by whole pieces of the text: it knows nothing of the first one.

const allWords = `module where data let in open using hiding renaming to private postulate infix infixl infixr Set fst snd : = -> \ ** _ → λ`

// size is how many bytes the rune has that s begins with; 0: s begins with none.
func size(s string) int {
	for n, form := range []struct{ mask, lead, least int }{{0x80, 0, 0}, {0xe0, 0xc0, 0x80}, {0xf0, 0xe0, 0x800}, {0xf8, 0xf0, 0x10000}} {
		if int(s[0])&form.mask != form.lead || len(s) <= n {
			continue
		}
		r := int(s[0]) &^ form.mask
		for _, b := range []byte(s[1 : n+1]) {
			if b&0xc0 != 0x80 {
				return 0
			}
			r = r<<6 | int(b&0x3f)
		}
		if r < form.least || r > 0x10ffff || r >= 0xd800 && r < 0xe000 {
			return 0
		}
		return n + 1
	}
	return 0
}

// firstBad is the place of the first byte in s that begins no rune or that controls (if these are refused); -1: none.
func firstBad(s string, controls bool) (int, api.Errno) {
	for i := 0; i < len(s); {
		n := size(s[i:])
		if n == 0 {
			return i, api.ErrUTF
		}
		if controls && (s[i] < 32 && s[i] != 10 || s[i] == 127) {
			return i, api.ErrToken
		}
		i += n
	}
	return -1, api.OK
}

// kindOf is what a run of good runes is.
func kindOf(s string) (int, api.Errno) {
	switch {
	case slices.Contains(strings.Split(allWords, " "), s):
		return api.KWord, api.OK
	case strings.Trim(s, "0123456789") == "" && len(s) <= 9:
		return api.KNum, api.OK
	case strings.Trim(s, "0123456789") == "":
		return 0, api.ErrToken
	case len(s) > 60:
		return 0, api.ErrLong
	case slices.Contains(strings.Split(s, "."), ""):
		return 0, api.ErrToken
	}
	return api.KName, api.OK
}

// token is the token of that piece of s.
func token(s string, at, kind int, text string) api.Token {
	line := s[:at]
	if i := strings.LastIndex(line, "\n"); i >= 0 {
		line = line[i+1:]
	}
	switch text {
	case "→":
		text = "->"
	case "λ":
		text = `\`
	}
	return api.Token{Kind: kind, Text: text, At: at, Line: 1 + strings.Count(s[:at], "\n"), Col: 1 + len([]rune(line))}
}

// piece is how long the piece of s is that is passed over or is a token, and what it is (0: passed over).
func piece(s string) (long, kind int, bad int, e api.Errno) {
	switch {
	case s[0] == ' ' || s[0] == '\n':
		return 1, 0, 0, api.OK
	case strings.Contains("(){};,", s[:1]):
		return 1, api.KWord, 0, api.OK
	case strings.HasPrefix(s, "--"):
		long = len(strings.SplitN(s, "\n", 2)[0])
		if at, e := firstBad(s[:long], false); at >= 0 {
			return 0, 0, at, e
		}
		return long, 0, 0, api.OK
	}
	long = strings.IndexAny(s+" ", " \n(){};,")
	if at, e := firstBad(s[:long], true); at >= 0 {
		return 0, 0, at, e
	}
	kind, e = kindOf(s[:long])
	return long, kind, 0, e
}

// naive is the second reading of Tokens.
func naive(s string) ([]api.Token, int, api.Errno) {
	if len(s) > 65536 {
		return nil, 0, api.ErrLong
	}
	var out []api.Token
	at := 0
	for at < len(s) {
		long, kind, bad, e := piece(s[at:])
		if e != api.OK {
			return nil, at + bad, e
		}
		if kind != 0 {
			out = append(out, token(s, at, kind, s[at:at+long]))
		}
		if len(out) > 20000 {
			return nil, at, api.ErrLong
		}
		at += long
	}
	if len(out) == 20000 {
		return nil, at, api.ErrLong
	}
	return append(out, token(s, at, api.KEnd, "")), 0, api.OK
}
