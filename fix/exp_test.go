package fix_test

import (
	"slices"
	"strings"
	"testing"

	"telamon/api"
	"telamon/fix"
)

// common is the operators that most tests go by.
const common = `_+_ _-_ _*_ _::_ _^_ _/_ _==_ _<>_ : A
infixl 6 _+_ _-_
infixl 7 _*_
infixr 5 _::_ _^_
infixl 5 _/_
infix 4 _==_ _<>_
-_ !_ ~_ _? _# _% : A
infix 9 -_ !_
infixr 8 ~_
infix 8 _? _#
infixl 9 _%
if_then_else_ [_] <_|_> : A
`

// right is the right side of the last clause, with the table of the text.
func right(t *testing.T, s string) ([]api.Op, api.Exp) {
	t.Helper()
	l := parsed(t, s)
	ops, _, e := fix.Table(l)
	if e != api.OK {
		t.Fatalf("%q: %v", s, e)
	}
	return ops, l[len(l)-1].Exp
}

// means: each text means that.
func means(t *testing.T, head string, rows map[string]string) {
	t.Helper()
	for s, want := range rows {
		ops, x := right(t, head+"\nx = "+s)
		out, at, e := fix.Exp(ops, x)
		if got := plain(out); got != want || at != 0 || e != api.OK {
			t.Errorf("P1502: %s: %s, %d, %v, not %s", s, got, at, e, want)
		}
	}
}

// meansNone: each text has, at the `@`, a row that means nothing, or more than one thing.
func meansNone(t *testing.T, head string, rows ...string) {
	t.Helper()
	refused(t, api.ErrOperator, head, rows...)
}

func refused(t *testing.T, want api.Errno, head string, rows ...string) {
	t.Helper()
	for _, s := range rows {
		place := strings.Index(s, "@")
		ops, x := right(t, head+"\nx = "+s[:place]+s[place+1:])
		place += len(head + "\nx = ")
		if out, at, e := fix.Exp(ops, x); show(out) != show(api.Exp{}) || at != place || e != want {
			t.Errorf("P1502: %s: %s, %d, %v, not %d, %v", s, plain(out), at, e, place, want)
		}
	}
}

func TestP1502Examples(t *testing.T) {
	means(t, common, map[string]string{
		"a + b * c + d":      "((_+_ ((_+_ a) ((_*_ b) c))) d)",
		"if a then b else c": "(((if_then_else_ a) b) c)",
	})
	meansNone(t, common, "@a == b == c")
}

func TestP1502Atoms(t *testing.T) {
	means(t, common, map[string]string{
		// What stands alone is no row.
		"a": "a", "+": "+", "if": "if", "_": "_", "Set": "Set-1", "Set 3": "Set3", "()": "()", "(a)": "a", "_+_": "_+_",
		"a b":                        "(a b)",
		"a b c d":                    "(((a b) c) d)",
		"a (b c) d":                  "((a (b c)) d)",
		"Set 3 _ () (a , b) Set":     "((((Set3 _) ()) (a , b)) Set-1)",
		"fst a snd b (fst (c d))":    "(((fst a) (snd b)) (fst (c d)))",
		"a \\ x -> b c":              "(a (lam x (b c)))",
		"a let b : c d = e f in g h": "(a (let b : (c d) = (e f) in (g h)))",
		"f let + : A = b in c":       "(f (let + : A = b in c))",
		"a + \\ x -> x + x":          "((_+_ a) (lam x ((_+_ x) x)))",
		"- \\ x -> - x":              "(-_ (lam x (-_ x)))",
		"_+_ a b":                    "((_+_ a) b)",
		"[_] [ [_] ]":                "([_] ([_] [_]))",
		"M.+ a then' b":              "(((M.+ a) then') b)",
		"a_b a + a_b":                "((_+_ (a_b a)) a_b)",
	})
	// A part of an operator is no atom, whatever stands around it.
	meansNone(t, common, "@a then", "@then a", "@a + then", "@f (g) then b", "@+ +", "@] a", "@a (+) b c +", "@f [", "@f ] a [", "@a | b", "@else if", "@f (a) (then)")
}

func TestP1502Hidden(t *testing.T) {
	means(t, common, map[string]string{
		"a {b}":                 "(a {b})",
		"a {b} {c d} e {f}":     "((((a {b}) {(c d)}) e) {f})",
		"[ a ] {b}":             "(([_] a) {b})",
		"a + b {c} * d":         "((_+_ a) ((_*_ (b {c})) d))",
		"a {b} + c":             "((_+_ (a {b})) c)",
		"f {a + b}":             "(f {((_+_ a) b)})",
		"fst {a b}":             "(fst (hid (a b)))",
		"f fst {a}":             "(f (fst (hid a)))",
		"(\\ x -> a) {b}":       "((lam x a) {b})",
		"f {\\ {x : A B} -> a}": "(f {(lam {x:(A B)} a)})",
		"f {()} {_} {Set}":      "(((f {()}) {_}) {Set-1})",
	})
	meansNone(t, common, "@{a}", "@{a} b", "@{a} + b", "@a + {b}", "@[ {a} ]", "@- {a}", "@{a} ?", "@f + {a} b", "[_] [ (@{a}) ]", "f {@{a}}", "f {()} {@{a} -> b}", "(@{a}) b")
}

func TestP1502Forms(t *testing.T) {
	means(t, common, map[string]string{
		// Tighter ones are operands of those that are not so tight, on both sides.
		"a == b + c": "((_==_ a) ((_+_ b) c))",
		"a + b == c": "((_==_ ((_+_ a) b)) c)",
		"a + b :: c": "((_::_ ((_+_ a) b)) c)",
		"- a + - b":  "((_+_ (-_ a)) (-_ b))",
		"a % * b #":  "((_*_ (_% a)) (_# b))",
		"~ a %":      "(~_ (_% a))",
		"- a ?":      "(_? (-_ a))",
		// Of the same N by Assoc alone.
		"a - b + c - d":                       "((_-_ ((_+_ ((_-_ a) b)) c)) d)",
		"a :: b ^ c :: d":                     "((_::_ a) ((_^_ b) ((_::_ c) d)))",
		"a / b / c":                           "((_/_ ((_/_ a) b)) c)",
		"- ! - a":                             "(-_ (!_ (-_ a)))",
		"a ? # ?":                             "(_? (_# (_? a)))",
		"~ ~ a":                               "(~_ (~_ a))",
		"a % %":                               "(_% (_% a))",
		"if a then b else if c then d else e": "(((if_then_else_ a) b) (((if_then_else_ c) d) e))",
		"if if a then b else c then d else e": "(((if_then_else_ (((if_then_else_ a) b) c)) d) e)",
		"if a == b then c == d else e f":      "(((if_then_else_ ((_==_ a) b)) ((_==_ c) d)) (e f))",
		"f [ a == b ] [ < c | d e > ]":        "((f ([_] ((_==_ a) b))) ([_] ((<_|_> c) (d e))))",
		"[ a ] + < a + b | [ - c ] > d":       "((_+_ ([_] a)) (((<_|_> ((_+_ a) b)) ([_] (-_ c))) d))",
		"a + if b then c else d + e":          "((_+_ ((_+_ a) (((if_then_else_ b) c) d))) e)",
		"(a == b) == (c == d)":                "((_==_ ((_==_ a) b)) ((_==_ c) d))",
		"a + b * c - d * e * f == g h # :: i % ^ - j k": "((_==_ ((_-_ ((_+_ a) ((_*_ b) c))) ((_*_ ((_*_ d) e)) f))) ((_::_ (_# (g h))) ((_^_ (_% i)) (-_ (j k)))))",
	})
	meansNone(t, common,
		"@a == b <> c", "@a :: b / c", "@a / b :: c", "@a * - b +", "@~ a ?", "@- a %", "@a * if", "@if a then b", "@if then b else c", "@if a then b else", "@if a then b else c + d ? else e", "@- ~ a", "@a % ? %",
		"@[ a", "@[ ]", "@a [ ]", "@< a >", "@< a | >", "@< | a >", "@< a | b | c >", "@[ a ] ]", "@a ? b", "@a ? [ b ]", "@+ a", "@a +", "@+ a +", "@a + * b", "@a b + + c", "@- + a",
	)
}

// A row that means more than one thing is refused, though each of them would be right.
func TestP1502Several(t *testing.T) {
	ifs := "if_then_ if_then_else_ : A\n"
	means(t, ifs, map[string]string{"if a then b": "((if_then_ a) b)", "if a then b else c": "(((if_then_else_ a) b) c)", "if a then if b then c": "((if_then_ a) ((if_then_ b) c))"})
	meansNone(t, ifs, "@if a then if b then c else d", "f (@if a then if b then c else d)")
	minus := "-_ _- _-_ : A\n"
	means(t, minus, map[string]string{"a - b": "((_-_ a) b)", "- a": "(-_ a)", "a -": "(_- a)", "- - a": "(-_ (-_ a))", "- (a -)": "(-_ (_- a))"})
	meansNone(t, minus, "@- a -", "@a - - b")
	means(t, minus+"infix 5 -_\n", map[string]string{"- a -": "(-_ (_- a))"})
	means(t, minus+"infix 5 _-\n", map[string]string{"- a -": "(_- (-_ a))"})
	meansNone(t, minus+"infix 5 _-_\n", "@a - - b")
	bars := "|_| : A\n"
	means(t, bars, map[string]string{"| a |": "(|_| a)", "| a | | b |": "((|_| a) (|_| b))", "| | a | |": "(|_| (|_| a))", "| a | b": "((|_| a) b)"})
	meansNone(t, bars, "@| a | b | c |")
	means(t, bars+"_|_ : A\n", map[string]string{"a | b": "((_|_ a) b)"})
	means(t, bars+"_|_ : A\n", map[string]string{"| a | | b |": "((|_| a) (|_| b))"})
	meansNone(t, bars+"_|_ : A\n", "@| a | b | c |")
}

// Where each thing begins: what is built begins with its form's first part, the names of operators, too.
func TestP1502Places(t *testing.T) {
	head := "_+_ [_] -_ _! if_then_else_ : A\ninfix 3 if_then_else_\ninfix 30 _!\n"
	from := len(head + "\nx = ")
	for s, want := range map[string]string{
		"a b {c}":                  "app!@0(app@0(a@0 b@2) c@5)",
		"a + b":                    "app@0(app@0(_+_@0 a@0) b@4)",
		"- a":                      "app@0(-_@0 a@2)",
		"a !":                      "app@0(_!@0 a@0)",
		"[ a ]":                    "app@0([_]@0 a@2)",
		"f [ a ]":                  "app@0(f@0 app@2([_]@2 a@4))",
		"a b + c !":                "app@0(app@0(_+_@0 app@0(a@0 b@2)) app@6(_!@6 c@6))",
		"if a b then - c else d !": "app@0(app@0(app@0(if_then_else_@0 app@3(a@3 b@5)) app@12(-_@12 c@14)) app@21(_!@21 d@21))",
		"( a b ) + (c)":            "app@2(app@2(_+_@2 app@2(a@2 b@4)) c@11)",
		"(( - a )) b":              "app@3(app@3(-_@3 a@5) b@10)",
		"a   {  b  c  }":           "app!@0(a@0 app@7(b@7 c@10))",
		"(a , b c) d":              "app@0(pair@0(a@1 app@5(b@5 c@7)) d@10)",
		"\u2237 + \u03bb x -> x":   "app@0(app@0(_+_@0 \u2237@0) lam@6[x](x@14))",
	} {
		ops, x := right(t, head+"\nx = "+s)
		out, _, e := fix.Exp(ops, moved(x, -from))
		if got := show(out); got != want || e != api.OK {
			t.Errorf("P1502: %s: %s, %v, not %s", s, got, e, want)
		}
	}
}

// moved is x, so many bytes further behind.
func moved(x api.Exp, by int) api.Exp {
	out := x
	if x.Form != 0 {
		out.At += by
	}
	out.Binds, out.Kids = nil, nil
	for _, b := range x.Binds {
		b.Type = moved(b.Type, by)
		out.Binds = append(out.Binds, b)
	}
	for _, k := range x.Kids {
		out.Kids = append(out.Kids, moved(k, by))
	}
	return out
}

// A row is found wherever an expression may stand; all around it stays as it is.
func TestP1502Within(t *testing.T) {
	ops := []api.Op{{Name: "_+_", Parts: []string{"+"}, Left: true, Right: true}}
	raw := func(at int, names ...string) api.Exp {
		x := api.Exp{Form: api.XRaw, At: at}
		for i, n := range names {
			x.Kids = append(x.Kids, api.Exp{Form: api.XName, Name: n, At: at + 2*i})
		}
		return x
	}
	names := func(name string, at int) api.Exp { return api.Exp{Form: api.XName, Name: name, At: at} }
	sum := func(at int) api.Exp {
		f := api.Exp{Form: api.XApp, At: at, Kids: []api.Exp{names("_+_", at), names("a", at)}}
		return api.Exp{Form: api.XApp, At: at, Kids: []api.Exp{f, names("b", at+4)}}
	}
	type maker func(part func(at int) api.Exp) api.Exp
	bound := func(form int) maker {
		return func(part func(at int) api.Exp) api.Exp {
			return api.Exp{Form: form, At: 3, Binds: []api.Bind{{Name: "x", Hid: true, Type: part(10)}}, Kids: []api.Exp{part(30)}}
		}
	}
	kids := func(form, many int) maker {
		return func(part func(at int) api.Exp) api.Exp {
			x := api.Exp{Form: form, At: 4}
			for i := range many {
				x.Kids = append(x.Kids, part(10+20*i))
			}
			if form == api.XLet {
				x.Name = "l"
			}
			x.Hid = form == api.XApp
			return x
		}
	}
	all := []struct {
		make maker
		ats  []int
	}{
		{bound(api.XLam), []int{10, 30}}, {bound(api.XPi), []int{10, 30}}, {bound(api.XSigma), []int{10, 30}}, {kids(api.XApp, 2), []int{10, 30}}, {kids(api.XLet, 3), []int{10, 30, 50}}, {kids(api.XPair, 2), []int{10, 30}}, {kids(api.XFst, 1), []int{10}}, {kids(api.XSnd, 1), []int{10}}, {kids(api.XHid, 1), []int{10}},
	}
	for _, one := range all {
		for _, deep := range []int{1, 2} {
			wrap := func(part func(at int) api.Exp) api.Exp {
				if deep == 1 {
					return one.make(part)
				}
				return one.make(func(at int) api.Exp { return one.make(func(in int) api.Exp { return part(100*at + in) }) })
			}
			x := wrap(func(at int) api.Exp { return raw(at, "a", "+", "b") })
			want := show(wrap(sum))
			if out, at, e := fix.Exp(ops, x); show(out) != want || at != 0 || e != api.OK {
				t.Errorf("P1502: %s: %s, %d, %v", show(x), show(out), at, e)
			}
			// Each place, broken, is told; of several the first one from the left.
			for k := range 1 << len(one.ats) {
				first := 0
				bad := func(at int) api.Exp {
					last := at % 100
					for i, x := range one.ats {
						if x == last && k>>i&1 == 1 {
							if first == 0 {
								first = at
							}
							return raw(at, "a", "+")
						}
					}
					return raw(at, "a", "+", "b")
				}
				x := wrap(bad)
				out, at, e := fix.Exp(ops, x)
				if k > 0 && (at != first || e != api.ErrOperator || show(out) != show(api.Exp{})) || k == 0 && e != api.OK {
					t.Errorf("P1502: %s: %s, %d, %v, not %d", show(x), show(out), at, e, first)
				}
			}
		}
	}
}

// What stands further in is asked first, then what stands further left.
func TestP1502Order(t *testing.T) {
	meansNone(t, common, "+ a (@b + +) +", "a + (b (c (@d +)) (e +)) +", "f (a b) (c (@d +)) +", "f (@a (b c) +) (d (e +))", "\\ (x : @a +) -> b +", "(x : A b) (y : @c +) -> d +", "(@a + , b +)", "let a : @b + = c + in d +", "let a : b = @c + in d +", "+ \\ x -> @y +", "f {@a +} +")
	long := strings.Repeat("a ", 61)
	refused(t, api.ErrLong, common, "@"+long, "f (@"+long+")", "+ (@"+long+") +", "(@"+long+") (+ +)", "@"+strings.Repeat("a + ", 30)+"a", "@"+strings.Repeat("{a} ", 61))
	meansNone(t, common, strings.Repeat("a ", 60)+"(@a +)", "(@a +) ("+long+")", "@"+strings.Repeat("a ", 59)+"+", "@"+strings.Repeat("+ ", 60))
	means(t, common, map[string]string{
		strings.Repeat("a ", 60):                                         strings.Repeat("(", 59) + "a" + strings.Repeat(" a)", 59),
		"a " + strings.Repeat("{b} ", 59):                                strings.Repeat("(", 59) + "a" + strings.Repeat(" {b})", 59),
		strings.Repeat("a + ", 29) + "b c":                               strings.Repeat("((_+_ ", 29) + "a" + strings.Repeat(") a)", 28) + ") (b c))",
		strings.Repeat("- ", 59) + "a":                                   strings.Repeat("(-_ ", 59) + "a" + strings.Repeat(")", 59),
		"a " + strings.Repeat("? ", 59):                                  strings.Repeat("(_? ", 59) + "a" + strings.Repeat(")", 59),
		"f " + strings.Repeat("[ ", 29) + "a" + strings.Repeat(" ]", 29): "(f " + strings.Repeat("([_] ", 29) + "a" + strings.Repeat(")", 30),
	})
}

// Rows, expressions and operators that no file comes to.
func TestP1502HandedIn(t *testing.T) {
	name := func(s string, at int) api.Exp { return api.Exp{Form: api.XName, Name: s, At: at} }
	row := func(l ...api.Exp) api.Exp { return api.Exp{Form: api.XRaw, At: 9, Kids: l} }
	plus := api.Op{Name: "_+_", Parts: []string{"+"}, Left: true, Right: true}
	junk := api.Exp{Form: api.XRaw, Kids: []api.Exp{name("+", 0)}}
	rows := []struct {
		ops  []api.Op
		x    api.Exp
		want string
		e    api.Errno
	}{
		{nil, api.Exp{}, "-@0", api.OK},
		{nil, row(), "", api.ErrOperator},
		{nil, row(name("a", 3)), "a@3", api.OK},
		{nil, row(row(row(name("a", 3)))), "a@3", api.OK},
		{nil, row(name("+", 3), name("a", 4)), "app@3(+@3 a@4)", api.OK},
		{[]api.Op{plus}, row(name("+", 3)), "", api.ErrOperator},
		{[]api.Op{plus}, name("+", 3), "+@3", api.OK},
		{nil, row(api.Exp{Form: api.XHid, Kids: []api.Exp{name("a", 1)}}), "", api.ErrOperator},
		{nil, row(name("f", 1), api.Exp{Form: api.XHid, At: 2}), "app!@1(f@1 -@0)", api.OK},
		{nil, row(name("f", 1), api.Exp{Form: api.XHid, At: 2, Kids: []api.Exp{name("a", 3), name("b", 4)}}), "app!@1(f@1 a@3)", api.OK},
		{nil, row(api.Exp{Form: -1, At: 2}, api.Exp{Form: 99, At: 3}, api.Exp{}), "app@2(app@2(form-1@2 form99@3) -@0)", api.OK},
		{nil, row(api.Exp{Form: api.XLocal, N: 3}, api.Exp{Form: api.XSet, N: -7}), "app@0(local3@0 Set-7@0)", api.OK},
		// The same operator twice means one thing; two of the same parts mean two.
		{[]api.Op{plus, plus}, row(name("a", 1), name("+", 2), name("b", 3)), "app@1(app@1(_+_@1 a@1) b@3)", api.OK},
		{[]api.Op{plus, {Name: "_+_", Parts: []string{"+"}, Left: true, Right: true, N: 5, Assoc: "l"}}, row(name("a", 1), name("+", 2), name("b", 3)), "app@1(app@1(_+_@1 a@1) b@3)", api.OK},
		{[]api.Op{plus, {Name: "_+'_", Parts: []string{"+"}, Left: true, Right: true}}, row(name("a", 1), name("+", 2), name("b", 3)), "", api.ErrOperator},
		// What is the same but for a place is not the same.
		{[]api.Op{{Name: "n", Parts: []string{"x"}, Left: true, N: 1}, {Name: "n", Parts: []string{"x"}, Right: true, N: 2}, {Name: "n", Parts: []string{"x"}, Left: true, N: 3}}, row(name("x", 1), name("a", 2), name("x", 3)), "", api.ErrOperator},
		{nil, row(slices.Repeat([]api.Exp{name("a", 3)}, 61)...), "", api.ErrLong},
		// An Assoc that is none is none; an N may be any; a closed one has no use for them.
		{[]api.Op{{Name: "_+_", Parts: []string{"+"}, Left: true, Right: true, Assoc: "x"}}, row(name("a", 1), name("+", 2), name("b", 3), name("+", 4), name("c", 5)), "", api.ErrOperator},
		{[]api.Op{plus, {Name: "_*_", Parts: []string{"*"}, Left: true, Right: true, N: -1 << 63}}, row(name("a", 1), name("+", 2), name("b", 3), name("*", 4), name("c", 5)), "app@1(app@1(_*_@1 app@1(app@1(_+_@1 a@1) b@3)) c@5)", api.OK},
		{[]api.Op{plus, {Name: "_*_", Parts: []string{"*"}, Left: true, Right: true, N: 1<<63 - 1}}, row(name("a", 1), name("+", 2), name("b", 3), name("*", 4), name("c", 5)), "app@1(app@1(_+_@1 a@1) app@3(app@3(_*_@3 b@3) c@5))", api.OK},
		{[]api.Op{{Name: "[_]", Parts: []string{"[", "]"}, N: -5, Assoc: "r"}, plus}, row(name("[", 1), name("a", 2), name("]", 3), name("+", 4), name("b", 5)), "app@1(app@1(_+_@1 app@1([_]@1 a@2)) b@5)", api.OK},
		// A name that is cut otherwise than it looks, and operators without a part.
		{[]api.Op{{Name: "n", Parts: []string{"x"}}}, row(name("x", 1), name("x", 2)), "app@1(n@1 n@2)", api.OK},
		{[]api.Op{{Name: "", Parts: []string{"", "_"}, Right: true}}, row(name("", 1), name("b", 2), name("_", 3), name("c", 4)), "app@1(app@1(@1 b@2) c@4)", api.OK},
		{[]api.Op{{Name: "_", Left: true, Right: true}, {Name: "__", Left: true}, {Name: "c"}}, row(name("a", 1), name("b", 2)), "app@1(a@1 b@2)", api.OK},
		// Fields that are not of the form.
		{[]api.Op{plus}, api.Exp{Form: api.XName, Name: "a", N: 5, Hid: true, Binds: []api.Bind{{Type: junk}}, Kids: []api.Exp{junk}}, "a@0", api.OK},
		{[]api.Op{plus}, api.Exp{Form: api.XFst, Name: "a", N: 5, Hid: true, Binds: []api.Bind{{Type: junk}}, Kids: []api.Exp{name("b", 0)}}, "fst@0(b@0)", api.OK},
		{[]api.Op{plus}, api.Exp{Form: api.XSet, Name: "a", N: 5, Hid: true, Binds: []api.Bind{{Type: junk}}, Kids: []api.Exp{junk}}, "Set5@0", api.OK},
		{[]api.Op{plus}, api.Exp{Form: api.XApp, Name: "a", N: 5, Binds: []api.Bind{{Type: junk}}, Kids: []api.Exp{name("b", 0), name("c", 0)}}, "app@0(b@0 c@0)", api.OK},
		{[]api.Op{plus}, api.Exp{Form: api.XLam, Name: "a", N: 5, Hid: true, Binds: []api.Bind{{Name: "x"}}, Kids: []api.Exp{name("b", 0)}}, "lam@0[x](b@0)", api.OK},
		{[]api.Op{plus}, api.Exp{Form: api.XLet, Name: "a", N: 5, Hid: true, Binds: []api.Bind{{Type: junk}}}, "let a@0", api.OK},
		{[]api.Op{plus}, api.Exp{Form: api.XHole, Name: "a", N: 5, Kids: []api.Exp{junk}}, "_@0", api.OK},
		{[]api.Op{plus}, api.Exp{Form: api.XNone, Name: "a", N: 5, Kids: []api.Exp{junk}}, "()@0", api.OK},
		{[]api.Op{plus}, api.Exp{Form: api.XLocal, Name: "a", N: 5, Kids: []api.Exp{junk}}, "local5@0", api.OK},
		{[]api.Op{plus}, api.Exp{Form: 16, Name: "a", N: 5, At: 4, Hid: true, Binds: []api.Bind{{Type: junk}}, Kids: []api.Exp{junk}}, "form16@4", api.OK},
		{[]api.Op{plus}, api.Exp{Form: api.XRaw, Name: "a", N: 5, At: 9, Hid: true, Binds: []api.Bind{{Type: junk}}, Kids: []api.Exp{name("b", 0)}}, "b@0", api.OK},
	}
	for _, r := range rows {
		out, at, e := fix.Exp(r.ops, r.x)
		want, wantAt := r.want, 0
		if r.e != api.OK {
			want, wantAt = "-@0", 9
		}
		if got := show(out); got != want || at != wantAt || e != r.e {
			t.Errorf("P1502: %+v: %s, %d, %v, not %s, %v", r.x, got, at, e, want, r.e)
		}
	}
}
