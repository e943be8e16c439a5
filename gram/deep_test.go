package gram_test

import (
	"strconv"
	"strings"
	"testing"

	"telamon/api"
)

// layer is a way of standing deeper: what stands at the `?` is so much deeper than the whole.
type layer struct {
	text   string
	counts int
}

func layers() []layer {
	return []layer{
		{"(?)", 1}, {"(?, b)", 1}, {"(b, ?)", 1}, {"(b, ?, b)", 1}, {"{?}", 1}, {"b (?) b", 1}, {"b {?}", 1}, {"\\ x -> ?", 1}, {"b -> ?", 1}, {"b ** ?", 1}, {"b b -> ?", 1},
		{"(x : ?) -> b", 1}, {"{x : ?} -> b", 1}, {"(x : ?) ** b", 1}, {"(x : b) -> ?", 1}, {"(x : b) {y z : b} -> ?", 1}, {"(x : b) {y : ?} -> b", 1}, {"{x : b} ** ?", 1}, {"\\ x (y : ?) -> b", 1}, {"\\ {x} y -> ?", 1},
		{"let a : ? = b in b", 1}, {"let a : b = ? in b", 1}, {"let a : b = b in ?", 1}, {"let { a : b = b ; a : ? = b } in b", 1}, {"let { a : b = ? ; a : b = b } in b", 1},
		{"fst (?)", 2}, {"snd {?}", 2}, {"b fst (?)", 2}, {"fst snd (?)", 3}, {"b \\ x -> ?", 2}, {"b let a : b = b in ?", 2}, {"fst b \\ x -> ?", 2}, {"(b -> ?)", 2}, {"(b, \\ x -> (?))", 3},
	}
}

// nested is a text with so many of those around what is within.
func nested(layer string, many int, within string) string {
	ahead, behind, _ := strings.Cut(layer, "?")
	return strings.Repeat(ahead, many) + within + strings.Repeat(behind, many)
}

// 60 expressions and parts are within one another, and no 61, whatever they are.
func TestP1401Deep(t *testing.T) {
	for _, l := range layers() {
		for _, many := range []int{1, 2, 59 / l.counts} {
			if strings.Contains(l.text, "let") {
				many = min(many, 12) // the layout has a limit of its own
			}
			rest := 59 - many*l.counts
			taken(t, "f = "+nested(l.text, many, nested("(?)", rest, "c")), "f = "+nested("(?)", rest, nested(l.text, many, "c")))
			marked(t, api.ErrLong, "f = "+nested(l.text, many, nested("(?)", rest+1, "!c")))
		}
	}
	taken(t, "f = "+nested("fst ?", 59, "c"), "f = "+nested("snd ?", 30, nested("fst ?", 29, "Set 3")), "f = "+nested("(?)", 58, "fst c d"), "f = "+nested("(?)", 59, "()"))
	marked(t, api.ErrLong, "f = "+nested("fst ?", 60, "!c"), "f = "+nested("(?)", 59, "snd !Set"), "f = "+nested("fst ?", 59, "(!c)"), "f = "+nested("(?)", 59, "b fst !()"))
}

// What begins an expression 61 deep is told, whatever it is; what begins none may not stand there at all.
func TestP1401DeepToken(t *testing.T) {
	for _, s := range []string{"c", "c d", "(c)", "()", "{c}", "_", "Set", "Set 3", "fst c", "snd (c)", "\\ x -> c", "let a : A = b in c", "c -> d", "(x : A) -> B", "{x : A} ** B", "fst )", "(5", "\\ ->"} {
		marked(t, api.ErrLong, "f = "+nested("(?)", 60, "!"+s))
	}
	for _, s := range []string{"=", ":", "->", "**", ",", "}", "5", "data", "where", "in", "", ";"} {
		misplaced(t, "f = "+nested("(?", 60, "!"+s), "f = "+nested("(?", 59, "b -> !"+s), "f = "+nested("{?", 60, "!"+s), "f = "+nested("fst ?", 60, "!"+s))
	}
	misplaced(t, "f = "+nested("fst ?", 60, "!\\ x -> c"), "f = "+nested("snd ?", 60, "!let a : A = b in c"), "f = "+nested("(?", 59, "b ** !)"))
	marked(t, api.ErrLong, "f = "+nested("(?)", 59, "c !\\ x -> c"), "f = "+nested("(?)", 58, "c \\ x -> !c"), "f = "+nested("(?)", 59, "c !let a : A = b in c"))
}

// Outside of an expression nothing counts but modules and private blocks, and fst and snd.
func TestP1401DeepItems(t *testing.T) {
	in := nested("(?)", 59, "c")
	over := nested("(?)", 60, "!c")
	for _, s := range []string{"f = ?", "f : ?", "f (?) = c", "f {?}", "f c (?) c", "(?, c)", "f = c ; g = ?", "data D : ? where", "data D (a : ?) : c where", "data D {a b : ?} : c where", "data D : c where k : ?", "postulate a : c ; b : ?", "module M (a : c) (b : ?) where", "module M where a = c\nb = ?", "f \\ x -> c = ?"} {
		taken(t, strings.Replace(s, "?", in, 1))
		marked(t, api.ErrLong, strings.Replace(s, "?", over, 1))
	}
	for _, s := range []string{"private ?", "module M where ?", "private { ? }", "module M (a : c) where { c = b ; ? }"} {
		for _, many := range []int{1, 2, 30, 59} {
			rest := 59 - many
			taken(t, nested(s, many, "f = "+nested("(?)", rest, "c")), nested(s, many, "f "+nested("(?)", rest+1, "c")), nested(s, many, nested("fst ?", rest+1, "c")), nested(s, many, "a : "+nested("fst ?", rest, "c")))
			marked(t, api.ErrLong, nested(s, many, "f = "+nested("(?)", rest+1, "!c")), nested(s, many, "f "+nested("(?)", rest+2, "!c")), nested(s, many, nested("fst ?", rest+2, "!c")), nested(s, many, "g : "+nested("(?)", rest+1, "!c")))
			if !strings.Contains(s, "}") {
				marked(t, api.ErrLong, nested(s, many, "data D (a : "+nested("(?)", rest+1, "!c")+") : c where"))
			}
		}
	}
	// A block that is over counts no more, nor does an expression.
	taken(t, "private\n private a\nf = "+in, nested("private ?", 59, "a")+"\nf = "+in, "f = "+in+" "+in, "f "+in+" "+in+" = "+in, "f : "+in+" ; "+"f = "+in, nested("fst ?", 59, "c")+" "+nested("snd ?", 60, "c"))
	// The layout lets no more than 59 blocks be within one another and the file, and one that is empty.
	parsed(t, "P1401", map[string]string{strings.Repeat("private ", 60): nestedPrivate(60)})
}

func nestedPrivate(many int) string {
	out := ""
	for i := many - 1; i >= 0; i-- {
		inner := ""
		if out != "" {
			inner = " { " + out + " }"
		}
		out = "priv@" + strconv.Itoa(8*i) + inner
	}
	return out
}
