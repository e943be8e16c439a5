package scope_test

import (
	"strings"
	"testing"

	"telamon/api"
	"telamon/fix"
	"telamon/gram"
	"telamon/scope"
)

// read is a text's statements; `|` parts its lines, too.
func read(t *testing.T, s string) []api.Stmt {
	t.Helper()
	l, at, e := gram.Parse(strings.ReplaceAll(s, "|", "\n"))
	if e == api.OK {
		l, at, e = fix.Resolve(l)
	}
	if e != api.OK {
		t.Fatalf("%.200q: %d, %v", s, at, e)
	}
	return l
}

// resolved: each text resolves to that text.
func resolved(t *testing.T, promise string, rows ...[2]string) {
	t.Helper()
	for _, row := range rows {
		out, at, e := scope.Resolve(read(t, row[0]))
		if got := brief(out); got != row[1] || at != 0 || e != api.OK {
			t.Errorf("%s: %q:\n%s, %d, %v, not\n%s", promise, row[0], got, at, e, row[1])
		}
	}
}

// refused: the error's place stands in the text as a `!` that is none of it.
func refused(t *testing.T, promise string, e api.Errno, rows ...string) {
	t.Helper()
	for _, s := range rows {
		want := strings.Index(s, "!")
		out, at, got := scope.Resolve(read(t, s[:want]+s[want+1:]))
		if out != nil || at != want || got != e {
			t.Errorf("%s: %q: %s, %d, %v, not %d, %v", promise, s, brief(out), at, got, want, e)
		}
	}
}

func TestP1601Example(t *testing.T) {
	resolved(t, "P1601", [2]string{
		"module M (A : Set) where|  f : A -> A|  f x = x|  g : A -> A|  g x = f x",
		"def M.f <A:Set> : (pi _:$0 $1) {1 (M.f $0) = $0}; def M.g <A:Set> : (pi _:$0 $1) {1 (M.g $0) = ((M.f $1) $0)}",
	})
}

// What is put in stands at the name of which it comes.
func TestP1602Places(t *testing.T) {
	out, at, e := scope.Resolve(read(t, "module M (A : Set) where|  f : A -> A|  f x = x|  g : A -> A|  g {y} x = f refl"))
	want := "def@27 #1 name M.f [A:Set@14] exp pi@31[_:$0@31]($1@36) {clause@40 #1 left app@40(M.f@40 $0@42) exp $0@46}; " +
		"def@50 #1 name M.g [A:Set@14] exp pi@54[_:$0@54]($1@59) {clause@63 #2 left app@63(app!@63(M.g@63 $1@66) $0@69) exp app@73(app@73(M.f@73 $2@73) refl@75)}"
	if got := showStmts(out); got != want || at != 0 || e != api.OK {
		t.Errorf("P1602: %s, %d, %v, not %s", got, at, e, want)
	}
	out, _, _ = scope.Resolve(read(t, "postulate|  a b : Top|data D (x : Top) : Set where|  k l : D x|  m : Top"))
	want = "post@12 name a exp Top@18; post@12 name b exp Top@18; " +
		"data@22 name D [x:Top@34] exp Set@41 {type@53 k exp app@59(D@59 $0@61); type@53 l exp app@59(D@59 $0@61); type@65 m exp Top@69}"
	if got := showStmts(out); got != want {
		t.Errorf("P1602: %s, not %s", got, want)
	}
}

func TestP1601Nothing(t *testing.T) {
	resolved(t, "P1601", [2]string{"", ""}, [2]string{"module M where|module N where|  module O where", ""}, [2]string{"module M where", ""}, [2]string{"private", ""}, [2]string{"module M (A : Set) where|open M", ""}, [2]string{"postulate", ""})
}

func TestP1601Order(t *testing.T) {
	resolved(t, "P1601", [2]string{
		"postulate|  a b : Set|  c : a|module M where|  data D : Set where|    k : D|  private|    postulate|      d : D|  module N where|    f : D|    f = k|g : a|g = M.N.f|data E : Set where",
		"post a : Set; post b : Set; post c : a; data M.D : Set {type M.k : M.D}; post M.d : M.D; def M.N.f : M.D {0 M.N.f = M.k}; def g : a {0 g = M.N.f}; data E : Set",
	})
}

func TestP1601Locals(t *testing.T) {
	const a = "postulate|  a : Set|  b : "
	const put = "post a : Set; post b : "
	resolved(t, "P1601",
		[2]string{a + "(a : a) -> a", put + "(pi a:a $0)"},
		[2]string{a + "(x y : a) -> a", put + "(pi x:a (pi y:a a))"},
		[2]string{a + "(x : a) (y : Eq x x) -> Eq x y", put + "(pi x:a (pi y:((Eq $0) $0) ((Eq $1) $0)))"},
		[2]string{a + "(x : a) ** Eq x x", put + "(sigma x:a ((Eq $0) $0))"},
		[2]string{a + "(x : (x : a) -> Eq x x) -> x", put + "(pi x:(pi x:a ((Eq $0) $0)) $0)"},
		[2]string{a + "Eq (\\ x x -> x) (\\ x y -> x)", put + "((Eq (lam x (lam x $0))) (lam x (lam y $1)))"},
		[2]string{a + "Eq (\\ {x} (y : a) (z : Eq x y) -> z) a", put + "((Eq (lam {x} (lam y:a (lam z:((Eq $1) $0) $0)))) a)"},
		[2]string{a + "(_ : a) (x : a) (_ : a) -> x", put + "(pi _:a (pi x:a (pi _:a $1)))"},
		[2]string{a + "(x : a) (_ : a) -> Eq _ x", put + "(pi x:a (pi _:a ((Eq _) $1)))"},
		[2]string{a + "let a : a = a in a", put + "(let a : a = a in $0)"},
		[2]string{a + "let x : a = a ; y : Eq x x = x in Eq x y", put + "(let x : a = a in (let y : ((Eq $0) $0) = $0 in ((Eq $1) $0)))"},
		[2]string{a + "Eq (let x : a = a in x) (let x : a = a in x)", put + "((Eq (let x : a = a in $0)) (let x : a = a in $0))"},
		[2]string{a + "(x : a) -> (fst x , snd x)", put + "(pi x:a ((fst $0) , (snd $0)))"},
		[2]string{a + "(Eq : a) -> refl Eq", put + "(pi Eq:a (refl $0))"},
		// Where a binder ends, its name means again what it meant ahead.
		[2]string{a + "(x : a) -> Eq (\\ x -> x) x", put + "(pi x:a ((Eq (lam x $0)) $0))"},
		[2]string{a + "(x : a) -> Eq (\\ x x -> x) (\\ y -> x)", put + "(pi x:a ((Eq (lam x (lam x $0))) (lam y $1)))"},
		[2]string{a + "Eq ((a : a) -> a) a", put + "((Eq (pi a:a $0)) a)"},
	)
	refused(t, "P1601", api.ErrScope,
		a+"!x", a+"(x : !x) -> x", a+"(x : a) (y : !y) -> y", a+"let x : !x = a in x", a+"let x : a = !x in x", a+"Eq (\\ x -> x) !x", a+"((x : a) -> x) -> !x", a+"(x : a ** a) -> Eq x !x1", a+"(x : a ** !x) -> x",
		a+"Eq (let x : a = a in x) !x", a+"(x : a) -> !x.x", a+"(x : a) -> !a.x", a+"!_x", a+"(_ : a) -> (x : !y) -> x",
	)
}

func TestP1601Modules(t *testing.T) {
	resolved(t, "P1601",
		// The innermost module around that knows the name.
		[2]string{
			"postulate|  a : Set|module M where|  postulate|    b : a|    a : Set|    c : a|  module N where|    postulate|      d : a|      a : a|      e : a|  postulate|    f : a|postulate|  g : a",
			"post a : Set; post M.b : a; post M.a : Set; post M.c : M.a; post M.N.d : M.a; post M.N.a : M.a; post M.N.e : M.N.a; post M.f : M.a; post g : a",
		},
		// The prelude's names are known around the file.
		[2]string{"postulate|  a : Top|  b : Bot|  c : Eq tt uip refl", "post a : Top; post b : Bot; post c : (((Eq tt) uip) refl)"},
		[2]string{"postulate|  a : Top|  Top : Bot|  b : Top|module M where|  postulate|    tt : Top|    c : tt|postulate|  d : tt", "post a : Top; post Top : Bot; post b : Top; post M.tt : Top; post M.c : M.tt; post d : tt"},
		// A module's parameters hide what modules further in know, too.
		[2]string{"module M (A : Set) where|  module N where|    postulate|      A : A|      b : A|postulate|  c : M.N.A", "post M.N.A <A:Set> : $0; post M.N.b <A:Set> : $0; post c : M.N.A"},
		[2]string{"module M (A : Set) where|  module N where|    postulate|      A : A|      b : N.A|", "post M.N.A <A:Set> : $0; post M.N.b <A:Set> : (M.N.A $0)"},
		[2]string{"module M (x : Top) (x : Eq x x) where|  postulate|    a : Eq x x", "post M.a <x:Top x:((Eq $0) $0)> : ((Eq $0) $0)"},
		[2]string{"module M (_ : Top) (x : Top) where|  module N (y : Eq x x) where|    postulate|      a : Eq x y", "post M.N.a <_:Top x:Top y:((Eq $0) $0)> : ((Eq $1) $0)"},
		// Behind a module its parameters are gone.
		[2]string{"module M (Top : Set) where|  postulate|    a : Top|postulate|  b : Top", "post M.a <Top:Set> : $0; post b : Top"},
	)
	refused(t, "P1601", api.ErrScope,
		"module M where|  postulate|    a : Set|postulate|  b : !a", "module M (A : Set) where|postulate|  b : !A", "module M (A : !a) where|postulate|  a : Set", "module M (x : !x) where", "postulate|  a : Set|postulate|  b : !c|  c : Set",
		"module M (x : Top) (y : !z) (z : Top) where", "postulate|  a : !Set1x",
	)
}

func TestP1601Paths(t *testing.T) {
	const deep = "module M where|  postulate|    a : Set|  module N where|    postulate|      b : Set|"
	const put = "post M.a : Set; post M.N.b : Set; "
	resolved(t, "P1601",
		[2]string{deep + "postulate|  c : Eq M.a M.N.b", put + "post c : ((Eq M.a) M.N.b)"},
		[2]string{deep + "  postulate|    c : Eq (N.b) (M.N.b)|    d : M.c", put + "post M.c : ((Eq M.N.b) M.N.b); post M.d : M.c"},
		[2]string{deep + "    module M where|      postulate|        a : Eq N.b M.N.b|        c : M.a|    postulate|      d : M.a|  postulate|    e : Eq M.a N.M.a", put + "post M.N.M.a : ((Eq M.N.b) M.N.b); post M.N.M.c : M.N.M.a; post M.N.d : M.N.M.a; post M.e : ((Eq M.a) M.N.M.a)"},
		// A module and a name of one name.
		[2]string{"module a where|  postulate|    a : Set|postulate|  a : a.a|  b : a", "post a.a : Set; post a : a.a; post b : a"},
		// A path goes on within the module that is found, and a local has no dots.
		[2]string{"module M where|  module N where|    postulate|      a : Set|    module M where|      postulate|        b : Set|    postulate|      c : M.b|      d : (M.b : Set) -> M.b", "post M.N.a : Set; post M.N.M.b : Set; post M.N.c : M.N.M.b; post M.N.d : (pi M.b:Set M.N.M.b)"},
		// A module whose items are read is known there.
		[2]string{"module M where|  postulate|    a : Set|    b : M.a", "post M.a : Set; post M.b : M.a"},
		// What a module has not, one further out may have; if its path is not there.
		[2]string{"module M where|  module N where|    postulate|      a : Set|module L where|  module M where|  postulate|    b : M.N.a", "post M.N.a : Set; post L.b : M.N.a"},
	)
	refused(t, "P1601", api.ErrScope,
		deep+"postulate|  c : !N.b", deep+"postulate|  c : !M.b", deep+"postulate|  c : !M.N.a", deep+"postulate|  c : !M.M.a", deep+"postulate|  c : !M.a.b", deep+"postulate|  c : !M.O.b",
		"postulate|  c : !M.b|module M where|  postulate|    b : Set",
		// The first that has the module is asked, no other one.
		"module M where|  postulate|    a : Set|module L where|  module M where|  postulate|    b : !M.a",
		"module M where|  module N where|    postulate|      a : Set|module L where|  module M where|    module N where|  postulate|    b : !M.N.a",
		// What a module has opened or has around is not declared there.
		deep+"module O where|  open M|postulate|  c : !O.a", deep+"  postulate|    c : !N.a", "postulate|  a : Set|module M where|  postulate|    b : !M.a", "postulate|  b : !M.Top|module M where", "module M (A : Set) where|  postulate|    b : !M.A",
		// Opens bring no modules.
		deep+"open M|postulate|  c : !N.b",
		"module M (x : !M.a) where|  postulate|    a : Set",
	)
}

func TestP1601Private(t *testing.T) {
	const m = "module M where|  private|    postulate|      a : Set|    module N where|      postulate|        b : Set|  postulate|    c : a|    d : Eq M.a (M.N.b) N.b|"
	const put = "post M.a : Set; post M.N.b : Set; post M.c : M.a; post M.d : (((Eq M.a) M.N.b) M.N.b); "
	resolved(t, "P1601",
		[2]string{m + "postulate|  e : M.c", put + "post e : M.c"},
		[2]string{m + "  module O where|    postulate|      e : Eq a M.a N.b M.N.b", put + "post M.O.e : ((((Eq M.a) M.a) M.N.b) M.N.b)"},
		[2]string{"private|  postulate|    a : Set|module M where|  postulate|    b : a", "post a : Set; post M.b : a"},
		[2]string{"private|  private|    a : Set|    a = a|  b : a|  b = a", "def a : Set {0 a = a}; def b : a {0 b = a}"},
		// A private module's own names are not private.
		[2]string{"private|  module M where|    postulate|      a : Set|postulate|  b : M.a|open M|postulate|  c : a", "post M.a : Set; post b : M.a; post c : M.a"},
		// The innermost one that may be seen.
		[2]string{"module M where|  postulate|    a : Set|module L where|  module K where|    private|      module M where|  postulate|    b : M.a", "post M.a : Set; post L.b : M.a"},
		[2]string{"module A where|  module M where|    postulate|      a : Set|module L where|  module A where|    private|      module M where|  postulate|    b : A.M.a", "post A.M.a : Set; post L.b : A.M.a"},
		[2]string{"module M where|  private|    data D : Set where|      k : D|  f : D|  f = k", "data M.D : Set {type M.k : M.D}; def M.f : M.D {0 M.f = M.k}"},
	)
	refused(t, "P1601", api.ErrScope,
		m+"postulate|  e : !M.a", m+"postulate|  e : !M.N.b", m+"!open M using (a)", m+"!open M.N", m+"open M|postulate|  e : !a", m+"module O where|  postulate|    e : !M.a",
		"module M where|  private|    data D : Set where|      k : D|postulate|  a : !M.k", "module M where|  private|    f : Set|    f = f|postulate|  a : !M.f",
	)
}

func TestP1601Ambiguous(t *testing.T) {
	const two = "module M where|  postulate|    a b : Set|module N where|  postulate|    a c : Set|open M|open N|"
	refused(t, "P1601", api.ErrAmbiguous,
		two+"postulate|  d : !a", two+"postulate|  d : Eq b c !a", two+"module O where|  postulate|    d : !a", "module M where|  postulate|    a : Set|postulate|  a : Set|open M|postulate|  d : !a", "module M where|  postulate|    a : Set|open M|postulate|  a : Set|  b : !a",
		"module M where|  postulate|    a b : Set|open M renaming (a to b)|postulate|  d : !b", "module M where|  postulate|    a b : Set|open M renaming (a to c ; b to c)|postulate|  d : !c",
		"module M where|  postulate|    Top : Set|module N where|  postulate|    Top : Set|open M|open N|postulate|  d : !Top",
	)
	const put = "post M.a : Set; post M.b : Set; post N.a : Set; post N.c : Set; "
	resolved(t, "P1601",
		// Nothing is wrong as long as the name is not used.
		[2]string{two, strings.TrimSuffix(put, "; ")},
		[2]string{two + "postulate|  d : Eq b c M.a N.a", put + "post d : ((((Eq M.b) N.c) M.a) N.a)"},
		[2]string{two + "postulate|  d : (a : Set) -> a", put + "post d : (pi a:Set $0)"},
		// A module further in that knows one of that name.
		[2]string{two + "module O where|  open M|  postulate|    d : a", put + "post O.d : M.a"},
		[2]string{two + "module O where|  postulate|    a : Set|    d : a", put + "post O.a : Set; post O.d : O.a"},
		// One name that comes twice.
		[2]string{"module M where|  postulate|    a : Set|open M|open M|postulate|  d : a|open M using (a)|postulate|  e : a", "post M.a : Set; post d : M.a; post e : M.a"},
		[2]string{"module M where|  postulate|    a : Set|  module N where|    open M|    postulate|      b : a", "post M.a : Set; post M.N.b : M.a"},
		// What is opened hides the prelude's.
		[2]string{"module M where|  postulate|    Top : Set|open M|postulate|  d : Top", "post M.Top : Set; post d : M.Top"},
		// Two constructors of one name in two modules.
		[2]string{"module M where|  data D : Set where|    k : D|module N where|  data D : Set where|    k : D|f : M.D|f = M.k", "data M.D : Set {type M.k : M.D}; data N.D : Set {type N.k : N.D}; def f : M.D {0 f = M.k}"},
	)
}

func TestP1601Declaring(t *testing.T) {
	refused(t, "P1601", api.ErrToken,
		"!a.b : Set|a.b = c", "postulate|  !a b.c : d", "!data D.E : x where", "data D : Set where|  !k.l : x", "!module M.N where|  postulate|    a : x",
		"postulate|  !a.b a.b : x", "postulate|  !a.b a a : x",
	)
	refused(t, "P1601", api.ErrClash,
		"postulate|  a : Set|  !a : x", "postulate|  !a a : x", "postulate|  a : Set|!a : x|a = a", "postulate|  a : Set|!data a : x where", "data D : Set where|  !D : x", "data D : Set where|  k : D|  !k : x", "data D : Set where|  !k k : x",
		"data D : Set where|  k : D|data E : Set where|  !k : E", "data D : Set where|  k : D|postulate|  !k : x", "module M where|!module M (y : x) where", "a : Set|a = a|!a : Set|a = a", "private|  postulate|    a : Set|postulate|  !a : Set",
		"private|  module M where|!module M where", "module M where|  module N where|  !module N where", "postulate|  a : Set|  !a b.c : x", "module M where|  postulate|    a : Set|  postulate|    !a : Set",
		"data D (x : Top) : Set where|  k : D x|data D1 (x : Top) : Set where|  !k : D1 x",
	)
	refused(t, "P1601", api.ErrScope,
		// In its own type a name is not known.
		"postulate|  a : !a", "a : !a|a = a", "data D : !D where", "data D (x : !D) : Set where", "data D : Set where|  k : !k", "data D : Set where|  k : D|  l : Eq k !m|  m : D", "data D : Set where|  k l : Eq D !k", "postulate|  a b : !a", "module M (x : !a) where|  postulate|    a : Set",
		"data D (x : Top) : Set where|  k : D !y", "data D : !k where|  k : D", "data D (x : Top) : Set where|postulate|  a : !x",
	)
	resolved(t, "P1601",
		[2]string{"postulate|  a : Set|  b : a|  c : b", "post a : Set; post b : a; post c : b"},
		[2]string{"f : Set|f = f", "def f : Set {0 f = f}"},
		[2]string{"data D : Set where|  k : D|  l : Eq k k -> D", "data D : Set {type k : D; type l : (pi _:((Eq k) k) D)}"},
		[2]string{"postulate|  a : Set|module M where|  postulate|    a : a|    b : a", "post a : Set; post M.a : a; post M.b : M.a"},
		// Module names are names of their own.
		[2]string{"postulate|  M : Set|module M where|  module M where|    postulate|      M : M", "post M : Set; post M.M.M : M"},
		// What is opened is not declared here.
		[2]string{"module M where|  postulate|    a : Set|open M|module N where|  open M|  postulate|    a : Set", "post M.a : Set; post N.a : Set"},
		[2]string{"postulate|  Eq : Set|data Top : Set where|  tt : Top", "post Eq : Set; data Top : Set {type tt : Top}"},
	)
	// A statement's names come ahead of its types, from the left.
	refused(t, "P1601", api.ErrToken, "module M where|!module N.O (x : y) where|module M where", "!data D.E (x : y) : z where|  k : w", "postulate|  !a.b : x")
	refused(t, "P1601", api.ErrClash, "module M where|!module M (x : y) where|  a : b", "data D : Set where|!data D (x : y) : z where|  k : w")
	refused(t, "P1601", api.ErrScope, "data D (x : !y) : z where|  k : w", "data D (x : Top) : !z where|  k.l : w", "module M (x : !y) where|  a : Set", "a : !b|a = x|c : Set", "postulate|  a : Set|  b : !x|  a : Set")
}

func TestP1601Types(t *testing.T) {
	refused(t, "P1601", api.ErrMissing,
		"!a : x", "!a b : Set|a = a", "!a : Set|b : Set|b = b", "f : Set|f = f|!g = g", "!f = f", "f : Set|f = f|g : Set|g = g|!f = f", "f : Set|!g = f", "f : Set|f = f|!M.f = f",
		"f : Set|f = f|module M where|!f = f", "module M where|f : Set|f = f|open M|!f = f", "f : Set|f = f|postulate|  _+_ : Set|infix 3 _+_|!f = f", "f : Set|f = f|private|  !f = f", "!f : Set|private|  f = f", "postulate|  _+_ : Set|!f : Set|infix 3 _+_|f = f", "private|  !f : Set|f = f",
		"module M where|  !f : Set", "f : Set|f = f|postulate|  a : Set|!f = f", "!a.b : Set", "!a a : Set", "postulate|  a : Set|!a : Set", "f : Set|!x f = f", "f : Set|!(x , y) = f",
		"f : Top -> Set|f = f|!_ x = f",
	)
	refused(t, "P1601", api.ErrToken, "!a.b : Set|a.b = x")
	refused(t, "P1601", api.ErrClash, "postulate|  a : Set|!a : x|b = c")
	refused(t, "P1601", api.ErrScope, "f : !x|g = f")
	resolved(t, "P1601",
		[2]string{"f : Top -> Top|f x = x|f tt = tt|g : Top|g = f tt", "def f : (pi _:Top Top) {1 (f $0) = $0; 0 (f tt) = tt}; def g : Top {0 g = (f tt)}"},
		[2]string{"_+_ : Top|x + y = x|_+_ x = x|(x + y) {z} = z", "def _+_ : Top {2 ((_+_ $1) $0) = $1; 1 (_+_ $0) = $0; 3 (((_+_ $2) $1) {$0}) = $0}"},
		[2]string{"postulate|  a b : Top", "post a : Top; post b : Top"},
		[2]string{"private|  f : Top|  f = f|g : Top|g = f", "def f : Top {0 f = f}; def g : Top {0 g = f}"},
	)
}

func TestP1601Open(t *testing.T) {
	const m = "module M where|  postulate|    a b c : Set|"
	const put = "post M.a : Set; post M.b : Set; post M.c : Set; "
	resolved(t, "P1601",
		[2]string{m + "open M|postulate|  d : Eq a b c", put + "post d : (((Eq M.a) M.b) M.c)"},
		[2]string{m + "open M using (a ; b)|postulate|  d : Eq a b", put + "post d : ((Eq M.a) M.b)"},
		[2]string{m + "open M hiding (a)|postulate|  d : Eq b c", put + "post d : ((Eq M.b) M.c)"},
		[2]string{m + "open M renaming (a to x ; b to y)|postulate|  d : Eq x y c", put + "post d : (((Eq M.a) M.b) M.c)"},
		[2]string{m + "open M renaming (a to b ; b to a)|postulate|  d : Eq a b c", put + "post d : (((Eq M.b) M.a) M.c)"},
		[2]string{m + "open M using (a) renaming (b to x)|postulate|  d : Eq a x", put + "post d : ((Eq M.a) M.b)"},
		[2]string{m + "open M using (a ; b) renaming (b to x)|postulate|  d : Eq a x", put + "post d : ((Eq M.a) M.b)"},
		[2]string{m + "open M hiding (a) renaming (b to x)|postulate|  d : Eq c x", put + "post d : ((Eq M.c) M.b)"},
		[2]string{m + "open M hiding (a) renaming (b to a)|postulate|  d : a", put + "post d : M.b"},
		[2]string{m + "open M using ()|postulate|  a : Top", put + "post a : Top"},
		[2]string{m + "open M using (a)|open M using (b)|postulate|  d : Eq a b", put + "post d : ((Eq M.a) M.b)"},
		// In the module that opens and within it, from there on.
		[2]string{m + "module N where|  open M|  module O where|    postulate|      d : a|module P where|  postulate|    a : Top|    d : a", put + "post N.O.d : M.a; post P.a : Top; post P.d : P.a"},
		// A family's constructors, and functions.
		[2]string{"module M where|  data D : Set where|    k : D|  f : D|  f = k|open M|g : D|g = Eq k f", "data M.D : Set {type M.k : M.D}; def M.f : M.D {0 M.f = M.k}; def g : M.D {0 g = ((Eq M.k) M.f)}"},
		// Modules by paths, the innermost that has it.
		[2]string{"module M where|  module N where|    postulate|      a : Set|  open N|  postulate|    b : a|open M.N|postulate|  c : a", "post M.N.a : Set; post M.b : M.N.a; post c : M.N.a"},
		[2]string{"module M where|  postulate|    a : Set|module N where|  module M where|    postulate|      a : Set|  open M|  postulate|    b : a", "post M.a : Set; post N.M.a : Set; post N.b : N.M.a"},
		// A private block may open; its names are known as others are.
		[2]string{m + "private|  open M|postulate|  d : a", put + "post d : M.a"},
		// What a module declares by then.
		[2]string{"module M where|  postulate|    a : Set|  module N where|    open M|    postulate|      b : a|  postulate|    c : Set|  module O where|    open M|    postulate|      d : Eq a c", "post M.a : Set; post M.N.b : M.a; post M.c : Set; post M.O.d : ((Eq M.a) M.c)"},
		// A renamed operator is a name as another one.
		[2]string{m + "open M renaming (a to _+_)|postulate|  d : _+_", put + "post d : M.a"},
	)
	refused(t, "P1601", api.ErrScope,
		"!open M", m+"!open N", m+"!open M.N", m+"!open M using (d)", m+"!open M using (a ; d)", m+"!open M hiding (d)", m+"!open M renaming (d to a)", m+"!open M renaming (a to d ; d to a)",
		m+"open M using (a)|postulate|  d : !b", m+"open M hiding (a)|postulate|  d : !a", m+"open M renaming (a to x)|postulate|  d : !a", m+"open M using () renaming (a to x)|postulate|  d : Eq x !b", m+"open M using (a ; b) renaming (b to x)|postulate|  d : !b",
		m+"!open M using (Eq)", m+"module N where|  open M|!open N using (a)", m+"module N where|  open M|open N|postulate|  d : !a", "!open M|module M where", m+"open M|postulate|  d : !M1.a",
		// What is opened is gone behind the module that opens.
		m+"module N where|  open M|postulate|  d : !a",
		// Nothing that is declared later.
		"module M where|  postulate|    a : Set|  module N where|    open M|  postulate|    b : Set|  module O where|    postulate|      c : b|module P where|  open M using (a)|  postulate|    d : !b",
	)
}
