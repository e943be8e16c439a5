package layout

import "telamon/api"

// writer takes the tokens one by one; its stack holds the blocks around the token that is taken.
type writer struct {
	stack
	out   []api.Token
	ahead api.Token // as it was handed in
	here  api.Token // the one that is taken: a rule may turn its Kind
	begun bool      // a block began with it
}

// rules are asked of each token, in this order: what the word ahead of it asks for comes ahead of its own rules.
func (x *writer) rules() []func() api.Errno {
	return []func() api.Errno{x.behindWord, x.line, x.in, x.end, x.sign}
}

// take asks for too many tokens when all rules were asked: what a rule finds wrong with a token is told first.
func (x *writer) take(t api.Token, rules []func() api.Errno) api.Errno {
	x.here, x.begun = t, false
	for _, rule := range rules {
		if e := rule(); e != api.OK {
			return e
		}
	}
	x.out = append(x.out, x.here)
	x.ahead = t
	if len(x.out) > maxTokens {
		return api.ErrLong
	}
	return api.OK
}

// put puts in a token of layout that stands for none, ahead of the one that is taken.
func (x *writer) put(kind int) {
	x.out = append(x.out, api.Token{Kind: kind, At: x.here.At, Line: x.here.Line, Col: x.here.Col})
}

func (x *writer) begin(b block) api.Errno {
	if x.depth() == api.MaxDeep {
		return api.ErrLong
	}
	x.push(b)
	x.begun = true
	return api.OK
}

func (x *writer) endInner() {
	x.pop()
	x.put(api.KClose)
}

func isWord(t api.Token, text string) bool { return t.Kind == api.KWord && t.Text == text }
