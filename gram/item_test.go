package gram_test

import "testing"

func TestP1401Items(t *testing.T) {
	parsed(t, "P1401", map[string]string{
		"": "", "\n\n": "", ";": "", ";;;": "", "-- a": "",
		"a":              "clause@0 a@0",
		"a;b":            "clause@0 a@0 ; clause@2 b@2",
		"; a ;; b ;":     "clause@2 a@2 ; clause@7 b@7",
		"a\nb\n\n":       "clause@0 a@0 ; clause@2 b@2",
		"a\n;b\n; c":     "clause@0 a@0 ; clause@3 b@3 ; clause@7 c@7",
		"  a\n   b\n  c": "clause@2 raw@2(a@2 b@7) ; clause@11 c@11",
	})
	// An item may not begin so, at the beginning or later on, in the file or within.
	for _, s := range []string{")", "}", ",", ":", "=", "->", "**", `\ x -> x`, "let a : A = b in c", "where", "in", "using", "hiding", "renaming", "to", "5", "\u2192", "\u03bb x -> x"} {
		misplaced(t, "!"+s, "a ; !"+s, "a : A\n!"+s, "private !"+s, "module M where a = b ; !"+s)
	}
}

// What may not stand behind an item that is over.
func TestP1401Behind(t *testing.T) {
	items := []string{"a = b", "a b : c", "f a", "data D : A where { }", "postulate { }", "private { a }", "module M where { }", "open M", "open M using ()", "infix 5 a"}
	for _, item := range items {
		for _, s := range []string{")", "}", ",", "where", "in", "data D : A where", "postulate a : b", "private a", "module M where", "open M", "infixl 5 b", "to", "5"} {
			misplaced(t, item+" !"+s)
		}
		taken(t, item, item+"\n"+item, item+" ; "+item, "private { "+item+" }", "private\n "+item+"\n "+item, ";"+item+";")
	}
	for _, item := range items[3:7] {
		misplaced(t, item+" !a", item+" !: a", item+" != a", item+" !(a)")
	}
}

func TestP1402Families(t *testing.T) {
	parsed(t, "P1402", map[string]string{
		"data D : A where":                                       "data@0 D : A@9",
		"data D (a b : A) {c : B} : C -> D where":                "data@0 D [a:A@14] [b:A@14] [{c}:B@22] : pi@27[_:C@27](D@32)",
		"data D : A where k : D ; l m : D -> D":                  "data@0 D : A@9 { type@17 k : D@21 ; type@25 l m : pi@31[_:D@31](D@36) }",
		"data D : A where { k : D ;; }\na":                       "data@0 D : A@9 { type@19 k : D@23 } ; clause@30 a@30",
		"data D : A where\n k : D\n\n l : D\nb":                  "data@0 D : A@9 { type@18 k : D@22 ; type@26 l : D@30 } ; clause@32 b@32",
		"data _+_ (_ : A) : fst B where":                         "data@0 _+_ [_:A@14] : fst@19(B@23)",
		"data D {a : A} {b _ : B} (c : \\ x -> x) : Set 3 where": "data@0 D [{a}:A@12] [{b}:B@22] [{_}:B@22] [c:lam@30[x](x@37)] : Set3@42",
		"postulate":                    "post@0",
		"postulate { }":                "post@0",
		"postulate a b : A":            "post@0 { type@10 a b : A@16 }",
		"postulate\n a : A\n b : B\nc": "post@0 { type@11 a : A@15 ; type@18 b : B@22 } ; clause@24 c@24",
		"a : A":                        "type@0 a : A@4",
		"a b.c if_then_ a : A":         "type@0 a b.c if_then_ a : A@19",
		"a\n : A":                      "type@0 a : A@5",
		"infix 4 a":                    "fix@0 infix 4 a",
		"infixl 0 _+_ a.b":             "fix@0 infixl 0 _+_ a.b",
		"infixr 007 a a":               "fix@0 infixr 7 a a",
		"infix 999999999 a":            "fix@0 infix 999999999 a",
	})
}

func TestP1402Modules(t *testing.T) {
	parsed(t, "P1402", map[string]string{
		"private":                       "priv@0",
		"private a":                     "priv@0 { clause@8 a@8 }",
		"private private a ; b":         "priv@0 { priv@8 { clause@16 a@16 ; clause@20 b@20 } }",
		"private { private { a } ; b }": "priv@0 { priv@10 { clause@20 a@20 } ; clause@26 b@26 }",
		"module M where":                "module@0 M",
		"module A.B (a : A) {b c : B} where a = b\nc": "module@0 A.B [a:A@16] [{b}:B@26] [{c}:B@26] { clause@35 a@35 = b@39 } ; clause@41 c@41",
		"module M where module N where {a};":          "module@0 M { module@15 N { clause@31 a@31 } }",
		"module M where\n  a : B\n  c : D\ne : F":     "module@0 M { type@17 a : B@21 ; type@25 c : D@29 } ; type@31 e : F@35",
		"open M":                          "open@0 M",
		"open M.N using ()":               "open@0 M.N only",
		"open M hiding ()":                "open@0 M",
		"open M renaming ()":              "open@0 M",
		"open M using (a)":                "open@0 M only +a",
		"open M using (a ; b;_+_)":        "open@0 M only +a +b +_+_",
		"open M hiding (a;b)":             "open@0 M -a -b",
		"open M renaming (a to b;c to a)": "open@0 M a>b c>a",
		"open M using (a) hiding (b;c) renaming (d to e)": "open@0 M only +a -b -c d>e",
		"open M using () hiding () renaming ()":           "open@0 M only",
		"open M hiding (a) renaming (b to c)":             "open@0 M -a b>c",
		"open M using (a) renaming ()":                    "open@0 M only +a",
		"private\n open M using (a\n b)":                  "priv@0 { open@9 M only +a +b }",
	})
}

func TestP1402Clauses(t *testing.T) {
	parsed(t, "P1402", map[string]string{
		"a":                        "clause@0 a@0",
		"a b":                      "clause@0 raw@0(a@0 b@2)",
		"a b = c d":                "clause@0 raw@0(a@0 b@2) = raw@6(c@6 d@8)",
		"a = b -> c":               "clause@0 a@0 = pi@4[_:b@4](c@9)",
		"(a) = b":                  "clause@0 a@1 = b@6",
		"(a) b = c":                "clause@0 raw@0(a@1 b@4) = c@8",
		"_ = b":                    "clause@0 _@0 = b@4",
		"Set":                      "clause@0 Set-1@0",
		"Set 2 = a":                "clause@0 Set2@0 = a@8",
		"fst a = b":                "clause@0 fst@0(a@4) = b@8",
		"snd a":                    "clause@0 snd@0(a@4)",
		"{a} = b":                  "clause@0 raw@0(hid@0(a@1)) = b@6",
		"{a} {b} () = c":           "clause@0 raw@0(hid@0(a@1) hid@4(b@5) ()@8) = c@13",
		"(a, b) = c":               "clause@0 pair@0(a@1 b@4) = c@9",
		"() = c":                   "clause@0 ()@0 = c@5",
		"f \\ x -> x = y":          "clause@0 raw@0(f@0 lam@2[x](x@9)) = y@13",
		"f let a : A = b in c = d": "clause@0 raw@0(f@0 let a@2(A@10 b@14 c@19)) = d@23",
		"a + b = c":                "clause@0 raw@0(a@0 +@2 b@4) = c@8",
	})
}

func TestP1401Families(t *testing.T) {
	misplaced(t,
		"data!", "data !5", "data !_ : A where", "data !: A where", "data !(a : A) : A where", "data !where", "data D!", "data D !where", "data D !E : A where", "data D != A", "data D !5",
		"data D !(a) : A where", "data D !(a b) : A where", "data D !{a} : A where", "data D !() : A where", "data D (a : A) !(b) : A where", "data D (a : A) !{b c} : A where", "data D (a : A) !b : A where",
		"data D (a : A)!", "data D (a : A) !where", "data D (a : A !} : A where", "data D {a : A !) : A where", "data D (a : !) : A where", "data D (a : A !, B) : A where", "data D !(5 : A) : A where", "data D !((a : A)) : A where",
		"data D : !where", "data D : A!", "data D : A != B", "data D : A\n!where", "data D : A !: B where",
		"data D : A where !5", "data D : A where !_ : B", "data D : A where k!", "data D : A where k != D", "data D : A where k !(a) : D", "data D : A where k !_ : D",
		"data D : A where k : D != D", "data D : A where k : D !: D", "data D : A where !: D", "data D : A where k : !; l : D", "data D : A where k !; l : D", "data D : A where !data E : A where", "data D : A where !open M",
		"postulate !5", "postulate a!", "postulate a != b", "postulate a !(b) : c", "postulate !_ : a", "postulate !private a", "postulate !infix 4 a", "postulate a : A ; !(b) : A", "postulate a : A ; !postulate b : B", "postulate a !{b} : c",
		"infix!", "infix !a", "infix !_", "infix 6!", "infixl 6 !_", "infixr 6 !5", "infixl 6 a !5", "infixr 6 a !(b)", "infix 6 a !: b", "infix 6 a != b", "infix !infix 6 a", "infixl !(6) a",
	)
}

func TestP1401Modules(t *testing.T) {
	misplaced(t,
		"module!", "module !where", "module !5 where", "module !_ where", "module !(a : A) where", "module M!", "module M !a where", "module M !: A where", "module M !(a) where", "module M !{a} where", "module M !() where",
		"module M (a : A) !(b c) where", "module M (a : A)!", "module M (a : A) !** B", "module M (a : A) !-> B", "module M !(a b c", "module M (a b : c !;", "module M (a : A) {b c : !} where",
		"open!", "open !5", "open !_", "open !using (a)", "open !(a)", "open M !N", "open M !(a)",
		"open M using!", "open M using !a", "open M using !{a}", "open M using (!;)", "open M using (!; a)", "open M using (a !b)", "open M using (a ;!)", "open M using (a !, b)", "open M using (a!", "open M using (!_)", "open M using (!5)", "open M using (a !to b)",
		"open M using (a) !using (b)", "open M hiding (a) !using (b)", "open M hiding (a) !hiding (b)", "open M renaming (a to b) !using (c)", "open M renaming (a to b) !hiding (c)", "open M renaming (a to b) !renaming (c to d)", "open M renaming () !a",
		"open M hiding !a", "open M hiding (a !b)", "open M hiding (a ; !; b)",
		"open M renaming !a to b", "open M renaming (a !)", "open M renaming (a !b)", "open M renaming (a to !)", "open M renaming (!to a)", "open M renaming (a to b ; !)", "open M renaming (a to b ; c!)", "open M renaming (a to b !c to d)", "open M renaming (a to !_)", "open M renaming (a to b !to c)", "open M renaming (a !; b to c)",
	)
}

func TestP1401Clauses(t *testing.T) {
	misplaced(t,
		"a :!", "a b :!", "a : !)", "a : !where", "a : b !: c", "a : b != c", "a : b !where", "a : b ->!", "a : b -> !-> c", "a : b **!", "a : b !, c", "a : b !)",
		"_ !: a", "a _ !: b", "a (b) !: c", "a Set !: c", "a !5 : c", "fst a !: c", "(a) !: b", "{a} !: b", "() !: a",
		"a =!", "a = !=", "a = b != c", "a = !:", "a = !where", "a = b !where c = d", "a = b !: c", "a !-> b", "a !** b", "a b !-> c = d", "a !, b", "a \\ x -> x !: c", "a = !data", "a = !open M", "a = !postulate", "a = !module M where",
	)
}
