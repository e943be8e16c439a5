package gram_test

import (
	"strings"
	"testing"
)

func TestP1402Expressions(t *testing.T) {
	valued(t, map[string]string{
		"a": "a@0", "a.b": "a.b@0", "_": "_@0", "()": "()@0", "Set": "Set-1@0", "Set 0": "Set0@0", "Set 12": "Set12@0", "Set 007": "Set7@0", "Set 999999999": "Set999999999@0",
		"a b": "raw@0(a@0 b@2)", "Set Set": "raw@0(Set-1@0 Set-1@4)", "Set 3 a": "raw@0(Set3@0 a@6)", "_ _": "raw@0(_@0 _@2)",
		"a -> b": "pi@0[_:a@0](b@5)", "a -> b -> c": "pi@0[_:a@0](pi@5[_:b@5](c@10))", "a b -> c d": "pi@0[_:raw@0(a@0 b@2)](raw@7(c@7 d@9))", "a \u2192 b": "pi@0[_:a@0](b@6)",
		"a ** b": "sigma@0[_:a@0](b@5)", "a ** b ** c": "sigma@0[_:a@0](sigma@5[_:b@5](c@10))", "a ** b -> c": "sigma@0[_:a@0](pi@5[_:b@5](c@10))", "a -> b ** c": "pi@0[_:a@0](sigma@5[_:b@5](c@10))",
		"(a -> b) -> c": "pi@0[_:pi@1[_:a@1](b@6)](c@12)", "(a) -> b": "pi@0[_:a@1](b@7)", "{a} -> b": "pi@0[_:raw@0(hid@0(a@1))](b@7)", "_ -> ()": "pi@0[_:_@0](()@5)",
	})
}

func TestP1402Brackets(t *testing.T) {
	valued(t, map[string]string{
		"(a)": "a@1", "((a))": "a@2", "(a b)": "raw@1(a@1 b@3)", "((a) b)": "raw@1(a@2 b@5)", "(a) b": "raw@0(a@1 b@4)", "(Set)": "Set-1@1", "(Set 3)": "Set3@1", "(())": "()@1",
		"(a, b)": "pair@0(a@1 b@4)", "(a, b, c)": "pair@0(a@1 pair@4(b@4 c@7))", "(a, (b), c)": "pair@0(a@1 pair@5(b@5 c@9))", "(a , (b) c , d)": "pair@0(a@1 pair@5(raw@5(b@6 c@9) d@13))",
		"(a, b, c, d)": "pair@0(a@1 pair@4(b@4 pair@7(c@7 d@10)))", "((a, b), c)": "pair@0(pair@1(a@2 b@5) c@9)", "(a, (b, c))": "pair@0(a@1 pair@4(b@5 c@8))", "((a), b)": "pair@0(a@2 b@6)",
		"(a -> b, (c) -> d, e)": "pair@0(pi@1[_:a@1](b@6) pair@9(pi@9[_:c@10](d@16) e@19))", "(\\ x -> x, y)": "pair@0(lam@1[x](x@8) y@11)", "(a,b) c": "raw@0(pair@0(a@1 b@3) c@6)",
		"{a}": "raw@0(hid@0(a@1))", "({a})": "raw@1(hid@1(a@2))", "{{a}}": "raw@0(hid@0(raw@1(hid@1(a@2))))", "a {b c}": "raw@0(a@0 hid@2(raw@3(b@3 c@5)))", "{a} b": "raw@0(hid@0(a@1) b@4)", "a {(b, c)}": "raw@0(a@0 hid@2(pair@3(b@4 c@7)))",
		"{a -> b} {\\ x -> x}": "raw@0(hid@0(pi@1[_:a@1](b@6)) hid@9(lam@10[x](x@17)))", "({a}, {b})": "pair@0(raw@1(hid@1(a@2)) raw@6(hid@6(b@7)))",
		"fst a": "fst@0(a@4)", "fst a b": "raw@0(fst@0(a@4) b@6)", "fst snd a b": "raw@0(fst@0(snd@4(a@8)) b@10)", "a fst b": "raw@0(a@0 fst@2(b@6))", "fst (a b)": "fst@0(raw@5(a@5 b@7))", "snd (a, b)": "snd@0(pair@4(a@5 b@8))",
		"fst {a}": "fst@0(hid@4(a@5))", "fst ()": "fst@0(()@4)", "fst Set 3": "fst@0(Set3@4)", "fst Set a": "raw@0(fst@0(Set-1@4) a@8)", "snd _": "snd@0(_@4)", "fst (\\ x -> x)": "fst@0(lam@5[x](x@12))",
	})
}

func TestP1402Binders(t *testing.T) {
	valued(t, map[string]string{
		"\\ x -> a": "lam@0[x](a@7)", "\\ _ -> a": "lam@0[_](a@7)", "\\ {x} -> a": "lam@0[{x}](a@9)", "\\ {_} -> a": "lam@0[{_}](a@9)", "\u03bb x \u2192 a": "lam@0[x](a@9)",
		"\\ x y -> a": "lam@0[x](lam@0[y](a@9))", "\\ (x : A) -> a": "lam@0[x:A@7](a@13)", "\\ {x y : A} -> a": "lam@0[{x}:A@9](lam@0[{y}:A@9](a@15))",
		"\\ x {y} (z w : A) _ {v : B C} -> a": "lam@0[x](lam@0[{y}](lam@0[z:A@15](lam@0[w:A@15](lam@0[_](lam@0[{v}:raw@25(B@25 C@27)](a@33))))))",
		"\\ (x : A -> B) -> \\ y -> a":        "lam@0[x:pi@7[_:A@7](B@12)](lam@18[y](a@25))", "\\ x -> a -> b": "lam@0[x](pi@7[_:a@7](b@12))", "\\ x -> a b": "lam@0[x](raw@7(a@7 b@9))",
		"(x : A) -> B": "pi@0[x:A@5](B@11)", "{x : A} -> B": "pi@0[{x}:A@5](B@11)", "(x y : A) {z : B} -> C": "pi@0[x:A@7](pi@0[y:A@7](pi@0[{z}:B@15](C@21)))", "(_ : A) -> B": "pi@0[_:A@5](B@11)", "(a _ b : A) -> B": "pi@0[a:A@9](pi@0[_:A@9](pi@0[b:A@9](B@15)))",
		"(x : A) (y : B) -> (z : C) -> D": "pi@0[x:A@5](pi@0[y:B@13](pi@19[z:C@24](D@30)))", "A -> (x : B) -> C": "pi@0[_:A@0](pi@5[x:B@10](C@16))", "(x : A) -> B ** C": "pi@0[x:A@5](sigma@11[_:B@11](C@16))",
		"(x : A) ** B": "sigma@0[x:A@5](B@11)", "{x : A} ** B": "sigma@0[{x}:A@5](B@11)", "(x y : A) ** B": "sigma@0[x:A@7](sigma@0[y:A@7](B@13))", "(x : A) ** (y : B) -> C": "sigma@0[x:A@5](pi@11[y:B@16](C@22))",
		"((x : A) -> B)": "pi@1[x:A@6](B@12)", "a ((x : A) -> B)": "raw@0(a@0 pi@3[x:A@8](B@14))", "a {{x : A} -> B}": "raw@0(a@0 hid@2(pi@3[{x}:A@8](B@14)))", "(x : (y : A) -> B) -> C": "pi@0[x:pi@5[y:A@10](B@16)](C@22)", "((x : A) ** B, c)": "pair@0(sigma@1[x:A@6](B@12) c@15)",
		"(x.y : A) -> B": "pi@0[x.y:A@7](B@13)", "(x y : a b) -> c": "pi@0[x:raw@7(a@7 b@9)](pi@0[y:raw@7(a@7 b@9)](c@15))",
	})
}

func TestP1402Last(t *testing.T) {
	valued(t, map[string]string{
		"g \\ x -> x y": "raw@0(g@0 lam@2[x](raw@9(x@9 y@11)))", "g \\ x -> x -> y": "raw@0(g@0 lam@2[x](pi@9[_:x@9](y@14)))", "g a \\ x -> x": "raw@0(g@0 a@2 lam@4[x](x@11))", "{a} \\ x -> x": "raw@0(hid@0(a@1) lam@4[x](x@11))",
		"g \\ x -> h \\ y -> x": "raw@0(g@0 lam@2[x](raw@9(h@9 lam@11[y](x@18))))", "(g \\ x -> x) y": "raw@0(raw@1(g@1 lam@3[x](x@10)) y@13)", "fst a \\ x -> x": "raw@0(fst@0(a@4) lam@6[x](x@13))",
		"g let a : A = b in c d": "raw@0(g@0 let a@2(A@10 b@14 raw@19(c@19 d@21)))", "a -> g \\ x -> b -> c": "pi@0[_:a@0](raw@5(g@5 lam@7[x](pi@14[_:b@14](c@19))))",
	})
}

func TestP1402Lets(t *testing.T) {
	valued(t, map[string]string{
		"let a : A = b in c":                             "let a@0(A@8 b@12 c@17)",
		"let a : A = b ; c : C = d in e":                 "let a@0(A@8 b@12 let c@16(C@20 d@24 e@29))",
		"let a : A = b ; c : C = d ; e : E = f in g":     "let a@0(A@8 b@12 let c@16(C@20 d@24 let e@28(E@32 f@36 g@41)))",
		"let\n   a : A = b\n   c : C = d\n in e":         "let a@0(A@11 b@15 let c@20(C@24 d@28 e@34))",
		"let { a : A = b ; c : C = d } in e":             "let a@0(A@10 b@14 let c@18(C@22 d@26 e@33))",
		"let a : A -> B = \\ x -> x in c":                "let a@0(pi@8[_:A@8](B@13) lam@17[x](x@24) c@29)",
		"let a : (x : A) ** B = b in let c : C = d in e": "let a@0(sigma@8[x:A@13](B@19) b@23 let c@28(C@36 d@40 e@45))",
		"let a : A = let b : B = c in d in e":            "let a@0(A@8 let b@12(B@20 c@24 d@29) e@34)",
		"let a : A = g let b : B = c in d in e":          "let a@0(A@8 raw@12(g@12 let b@14(B@22 c@26 d@31)) e@36)",
		"let a.b : A = b in c -> d":                      "let a.b@0(A@10 b@14 pi@19[_:c@19](d@24))",
	})
}

// places: where an expression may stand.
func places() []string {
	return []string{"f = ?", "f : ?", "f = (?", "f = (a, ?", "f = {?", "f = \\ x -> ?", "f = a -> ?", "f = a ** ?", "f = (x : ?", "f = (x : a) -> ?", "f = \\ (x : ?", "f = let a : ?", "f = let a : A = ?", "f = let a : A = b in ?", "data D (a : ?", "data D : ?", "postulate a : ?", "module M {a : ?", "f (?", "private f = ?"}
}

func TestP1401Begin(t *testing.T) {
	for _, s := range places() {
		for _, x := range []string{":", "=", "->", "**", ",", "}", "5", "data", "where", "in", "to", "open", "module"} {
			misplaced(t, strings.Replace(s, "?", "!"+x, 1))
		}
		if !strings.HasSuffix(s, "(?") {
			misplaced(t, strings.Replace(s, "?", "!)", 1))
		}
		misplaced(t, strings.Replace(s, "?", "!", 1))
	}
}

func TestP1401Within(t *testing.T) {
	for _, s := range places() {
		for _, x := range []string{
			"a !5", "a !data", "Set 3 !4", "Set a !data", "( !, a)", "(a,!)", "(a, !, b)", "(a !} b", "{a !) b", "{!} a", "{a !, b}", "{ !5", "(a !;", "(a !=", "() !5",
			"fst!", "fst !)", "fst !\\ x -> x", "fst !let a : A = b in c", "fst !5", "fst !-> a", "snd !: a", "fst snd !\\ x -> x", "g fst !\\ x -> x", "g snd !let", "fst fst!",
			"\\!", "\\ !-> a", "\\ !5 -> a", "\\ x!", "\\ x !: a", "\\ x !, y -> a", "\\ x !5 -> a", "\\ x !** a", "\\ x -> !-> a", "\\ x ->!", "\\ !(x) -> a", "\\ !(x y) -> a", "\\ x !(y) -> a", "\\ !() -> a", "\\ !((x : A)) -> a", "\\ !(5 : A) -> a", "\\ x !\\ y -> a", "\\ !Set -> a",
			"\\ {!} -> a", "\\ {x !y} -> a", "\\ {!5} -> a", "\\ {x !) -> a", "\\ {x !, y} -> a", "\\ {_ !_} -> a", "\\ {!(x : A)} -> a", "\\ {!{x}} -> a", "\\ {x !-> a", "\\ (x : A !} -> a", "\\ {x : A !) -> a", "\\ (x : A) {y : B} {z !w} -> a", "\\ (x : !) -> a",
			"(x : A!", "(x : A)!", "(x : A) !B", "(x : A) !(y) -> B", "(x : A) !{y} -> B", "(x : A) !{y z} -> B", "(x : A) !() -> B", "(x : A) (y : B) !** C", "(x : A) !, B", "(x : A) !: B", "(x : A) !_ -> B", "(x : A) -> !-> B", "(x : A) !\\ y -> z", "(x : A) !) -> B", "{x : A} !B", "(x : !) -> B", "(x y : !) -> B", "(x : A !, B)", "(x : A !: B)", "{x : A !) -> B", "(x : A !} -> B",
			"a -> !** b", "a ** !-> b", "a -> b !5",
			"let!", "let !5", "let !_ : A = b in c", "let a!", "let a !b : A = c in d", "let a != b in c", "let a !(b) : A = c in d", "let a : != b in c", "let a : A !in c", "let a : A = !in c", "let a : A = b ; !in c", "let !; in c", "let a : A = b !) c", "let a : A = b != c in d", "let a : A = b ; c !in d",
			"let { a : A = b } !c", "let { a : A = b !, c } in d", "let { !} in d", "let { a : A = b ; !} in d", "let { !; a : A = b } in d", "let a : A = b in !in c", "let !in a",
		} {
			misplaced(t, strings.Replace(s, "?", x, 1))
		}
	}
}
