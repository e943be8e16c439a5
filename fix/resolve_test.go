package fix_test

import (
	"strings"
	"testing"

	"telamon/api"
	"telamon/fix"
)

func TestP1503Resolve(t *testing.T) {
	const sum = "_+_ : A\n"
	for s, want := range map[string]string{
		"":                       "",
		"f : a + b\nf x = x + x": "type@8 f exp app@12(app@12(_+_@12 a@12) b@16); clause@18 left app@18(f@18 x@20) exp app@24(app@24(_+_@24 x@24) x@28)",
		"f a b":                  "clause@8 left app@8(app@8(f@8 a@10) b@12)",
		"a + b = c":              "clause@8 left app@8(app@8(_+_@8 a@8) b@12) exp c@16",
		"f":                      "clause@8 left f@8",
		"f {x} = ()":             "clause@8 left app!@8(f@8 x@11) exp ()@16",
		"data D (a b : A B) {c : C} : A + B where\n  k l : D a": "data@8 name D [a:app@22(A@22 B@24)] [b:app@22(A@22 B@24)] [{c}:C@32] exp app@37(app@37(_+_@37 A@37) B@41) {type@51 k l exp app@57(D@57 a@59)}",
		"postulate\n  f : A B\n  g : A":                         "post@8 {type@20 f exp app@24(A@24 B@26); type@30 g exp A@34}",
		"module M (a : A + B) where\n  f a":                     "module@8 name M [a:app@22(app@22(_+_@22 A@22) B@26)] {clause@37 left app@37(f@37 a@39)}",
		"private\n  module M where\n    f a":                    "priv@8 {module@18 name M {clause@37 left app@37(f@37 a@39)}}",
		"open M using (a ; _+_) hiding (b) renaming (c to d)":   "open@8 name M using a using _+_ hiding b only c>d",
		"open M":               "open@8 name M",
		"infixr 7 _+_":         "fix@8 #7 assoc r _+_",
		"data D : A where":     "data@8 name D exp A@17",
		"private {}":           "priv@8",
		"f : (x : A + B) -> C": "type@8 f exp pi@12[x:app@17(app@17(_+_@17 A@17) B@21)](C@27)",
	} {
		l, at, e := fix.Resolve(parsed(t, sum+s))
		if want != "" {
			want = "; " + want
		}
		if got := showStmts(l); got != "type@0 _+_ exp A@6"+want || at != 0 || e != api.OK {
			t.Errorf("P1503: %q: %s, %d, %v, not %s", s, got, at, e, want)
		}
	}
}

// Operators that are declared anywhere are known everywhere.
func TestP1503Known(t *testing.T) {
	for _, s := range []string{
		"f = a + b * c\nmodule M where\n  _+_ _*_ : A\n  infixl 30 _*_", "module M where\n  infixl 30 _*_\n  f = a + b * c\nprivate\n  data _+_ : A where\n    _*_ : A", "postulate\n  f : a + b * c\n  _*_ : A\ninfix 21 _*_\npostulate\n  _+_ : A",
	} {
		l, _, e := fix.Resolve(parsed(t, s))
		if got := showStmts(l); e != api.OK || !strings.Contains(strings.NewReplacer("@", "", "0", "", "1", "", "2", "", "3", "", "4", "", "5", "", "6", "", "7", "", "8", "", "9", "").Replace(got), "app(app(_+_ a) app(app(_*_ b) c))") {
			t.Errorf("P1503: %q: %s, %v", s, got, e)
		}
	}
}

// The first error: Table's; then of the statements in order, of each its binds, Exp, Left, what is within.
func TestP1503Order(t *testing.T) {
	bad := func(at int) api.Exp {
		return api.Exp{Form: api.XRaw, At: at, Kids: []api.Exp{{Form: api.XName, Name: "+"}}}
	}
	good := api.Exp{Form: api.XName, Name: "g"}
	ops := api.Stmt{Form: api.SType, Names: []string{"_+_"}, Exp: good}
	for _, form := range []struct {
		form   int
		fields string
	}{
		{api.SType, "e"}, {api.SClause, "el"}, {api.SData, "besc"}, {api.SPost, "s"}, {api.SModule, "bs"}, {api.SPriv, "s"}, {api.SOpen, ""}, {api.SFix, ""}, {0, ""}, {10, ""}, {-1, ""},
	} {
		for k := range 32 {
			has := func(i int, field string) bool { return k>>i&1 == 1 && strings.Contains(form.fields, field) }
			one := func(i int, at int) api.Exp {
				if k>>i&1 == 1 {
					return bad(at)
				}
				return good
			}
			s := api.Stmt{Form: form.form, At: 1, Name: "n", Exp: one(2, 30), Left: one(3, 40)}
			s.Binds = []api.Bind{{Name: "x", Type: one(0, 10)}, {Name: "y", Type: one(1, 20)}}
			s.Sub = []api.Stmt{{Form: api.SType, At: 2, Exp: one(4, 50)}}
			want := 0
			switch {
			case has(0, "b"):
				want = 10
			case has(1, "b"):
				want = 20
			case has(2, "e"):
				want = 30
			case has(3, "l"):
				want = 40
			case has(4, "s"):
				want = 50
			}
			l := []api.Stmt{ops, s, {Form: api.SType, Exp: bad(60)}}
			if want == 0 {
				want = 60
			}
			out, at, e := fix.Resolve(l)
			if out != nil || at != want || e != api.ErrOperator {
				t.Errorf("P1503: form %d, %d: %s, %d, %v, not %d", form.form, k, showStmts(out), at, e, want)
			}
			// Table's error comes ahead of all.
			out, at, e = fix.Resolve(append(l, api.Stmt{Form: api.SFix, At: 70, Names: []string{"_-_"}}))
			if out != nil || at != 70 || e != api.ErrScope {
				t.Errorf("P1503: form %d, %d: %s, %d, %v", form.form, k, showStmts(out), at, e)
			}
		}
	}
	long := "x = " + strings.Repeat("a ", 61)
	for s, want := range map[string]fault{
		"x = a\n" + long:                   {10, api.ErrLong},
		long[4:]:                           {0, api.ErrLong},
		long + "\na__ : A":                 {len(long) + 1, api.ErrOperator},
		"{a} = b":                          {0, api.ErrOperator},
		"_+_ : A\na + = b +":               {14, api.ErrOperator},
		"_+_ : A\na + = b":                 {8, api.ErrOperator},
		"_+_ : A\nprivate\n  a = b\n  + a": {26, api.ErrOperator},
	} {
		if l, at, e := fix.Resolve(parsed(t, s)); l != nil || (fault{at, e}) != want {
			t.Errorf("P1503: %q: %s, %d, %v, not %v", s, showStmts(l), at, e, want)
		}
	}
}

type fault struct {
	at int
	e  api.Errno
}

// Each form has its own fields in the answer, and none that are not its own.
func TestP1503Fields(t *testing.T) {
	name := func(s string) api.Exp { return api.Exp{Form: api.XName, Name: s, At: 5} }
	all := api.Stmt{
		N: 3, Name: "n", Assoc: "l", Names: []string{"_a", "b"}, Binds: []api.Bind{{Name: "x", Hid: true}, {Name: "y", Type: name("t")}}, Exp: name("e"), Left: name("l"),
		Sub: []api.Stmt{{Form: api.SType, Names: []string{"c"}}}, Only: true, Using: []string{"u"}, Hiding: []string{"h"}, Renaming: [][2]string{{"r", "s"}}, At: 8,
	}
	ops := []api.Stmt{{Form: api.SType, Names: []string{"_a", "b_"}}}
	for form, want := range []string{
		"none@8", "type@8 _a b exp e@5", "clause@8 left l@5 exp e@5", "data@8 name n [{x}] [y:t@5] exp e@5 {type@0 c}", "post@8 {type@0 c}", "-", "module@8 name n [{x}] [y:t@5] {type@0 c}", "open@8 name n using u hiding h only r>s", "priv@8 {type@0 c}", "def@8 #3 name n [{x}] [y:t@5] exp e@5 {type@0 c}", "10@8",
	} {
		s := all
		s.Form = form
		if form == api.SFix {
			s.Names, want = []string{"_a", "b_"}, "fix@8 #3 assoc l _a b_"
		}
		l, at, e := fix.Resolve(append(ops[:1:1], s))
		if got := showStmts(l); got != "type@0 _a b_; "+want || at != 0 || e != api.OK {
			t.Errorf("P1503: %s, %d, %v, not %s", got, at, e, want)
		}
	}
}
