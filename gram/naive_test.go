package gram_test

import (
	"strings"

	"telamon/api"
	"telamon/layout"
	"telamon/lex"
)

// A second reading of the chapter's grammar: its rules as a text, and all ways to go through it at once, token by token (Earley's), so that the first token behind which there is no way is found whatever the rules are. It tells no statements, and knows nothing of how deep expressions are.

// A bracket is written (: or {: where it begins a bind. An exp that begins so begins with a bind: so its first part (part1) has no such bracket.
const rules = `
file = OPEN items CLOSE END
items = | item | items SEMI | items SEMI item
item = data NAME binds DOTS exp where OPEN sigs CLOSE
item = postulate OPEN sigs CLOSE | private OPEN items CLOSE | module NAME binds where OPEN items CLOSE
item = open NAME use hide rename | fix NUM names | names DOTS exp | raw | raw IS exp
sigs = | sig | sigs SEMI | sigs SEMI sig
sig = names DOTS exp
use = | using list
hide = | hiding list
rename = | renaming pairs
fix = infix | infixl | infixr
list = ( ) | ( some ) | (: some )
some = NAME | some SEMI NAME
pairs = ( ) | ( tos ) | (: tos )
tos = NAME to NAME | tos SEMI NAME to NAME
names = NAME | names NAME
binds = | binds bind
bind = (: binders DOTS exp ) | {: binders DOTS exp }
binders = binder | binders binder
binder = NAME | _
exp = head | binds1 -> exp | bind ** exp | raw1 | raw1 -> exp | raw1 ** exp
head = \ lbinds -> exp | let OPEN defs CLOSE in exp
binds1 = bind | binds1 bind
lbinds = lbind | lbinds lbind
lbind = binder | { binder } | bind
defs = def | defs SEMI def
def = NAME DOTS exp IS exp
raw = parts | parts head
raw1 = part1 | part1 parts | part1 head | part1 parts head
parts = part | parts part
part = part1 | (: tuple ) | {: exp }
part1 = NAME | _ | Set | Set NUM | ( tuple ) | ( ) | { exp } | fst part | snd part
tuple = exp | tuple , exp
`

// rule is a left side and the signs that it may stand for.
type rule struct {
	left  string
	right []string
}

// book is the grammar; of each left side its rules, and whether it may stand for nothing.
type book struct {
	rules []rule
	of    map[string][]int
	empty map[string]bool
}

func newBook() *book {
	b := &book{of: map[string][]int{}, empty: map[string]bool{}}
	for _, line := range strings.Split(strings.TrimSpace(rules), "\n") {
		left, all, _ := strings.Cut(line, " = ")
		for _, right := range strings.Split(all, "|") {
			r := rule{left, strings.Fields(right)}
			b.of[left] = append(b.of[left], len(b.rules))
			b.empty[left] = b.empty[left] || len(r.right) == 0
			b.rules = append(b.rules, r)
		}
	}
	return b
}

// way is a rule, how much of it has been gone, and before which token it began.
type way struct{ rule, gone, from int }

// ways is all that may be on before a token, each once.
type ways struct {
	list []way
	seen map[way]bool
}

func (w *ways) add(x way) {
	if !w.seen[x] {
		w.seen[x] = true
		w.list = append(w.list, x)
	}
}

func newWays() *ways { return &ways{seen: map[way]bool{}} }

// reads is where the first of the signs is behind which there is no way; -1, if there is one to the end.
func (b *book) reads(signs []string) int {
	now := newWays()
	for _, r := range b.of["file"] {
		now.add(way{r, 0, 0})
	}
	var all []*ways
	for i, sign := range signs {
		all = append(all, now)
		next := newWays()
		for j := 0; j < len(now.list); j++ {
			x := now.list[j]
			right := b.rules[x.rule].right
			if x.gone == len(right) {
				for _, y := range all[x.from].list {
					if r := b.rules[y.rule]; y.gone < len(r.right) && r.right[y.gone] == b.rules[x.rule].left {
						now.add(way{y.rule, y.gone + 1, y.from})
					}
				}
				continue
			}
			for _, r := range b.of[right[x.gone]] {
				now.add(way{r, 0, i})
			}
			if b.empty[right[x.gone]] {
				now.add(way{x.rule, x.gone + 1, x.from})
			}
			if right[x.gone] == sign {
				next.add(way{x.rule, x.gone + 1, x.from})
			}
		}
		if len(next.list) == 0 {
			return i
		}
		now = next
	}
	return -1
}

// signOf is a token as the rules write it.
func signOf(l []api.Token, i int) string {
	switch t := l[i]; t.Kind {
	case api.KName:
		return "NAME"
	case api.KNum:
		return "NUM"
	case api.KOpen:
		return "OPEN"
	case api.KClose:
		return "CLOSE"
	case api.KSemi:
		return "SEMI"
	case api.KEnd:
		return "END"
	}
	switch w := l[i].Text; w {
	case ":":
		return "DOTS"
	case "=":
		return "IS"
	case "(", "{":
		j := i + 1
		for l[j].Kind == api.KName || l[j].Kind == api.KWord && l[j].Text == "_" {
			j++
		}
		if j > i+1 && l[j].Text == ":" {
			return w + ":"
		}
		return w
	default:
		return w
	}
}

// naive is the place and the error that Parse is to tell of a text.
func (b *book) naive(s string) (int, api.Errno) {
	l, at, e := lex.Tokens(s)
	if e != api.OK {
		return at, e
	}
	if l, at, e = layout.Blocks(l); e != api.OK {
		return at, e
	}
	var signs []string
	for i := range l {
		signs = append(signs, signOf(l, i))
	}
	if i := b.reads(signs); i >= 0 {
		return l[i].At, api.ErrToken
	}
	return 0, api.OK
}
