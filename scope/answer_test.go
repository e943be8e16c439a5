package scope_test

import (
	"testing"

	"telamon/api"
	"telamon/scope"
)

func TestP1602Parameters(t *testing.T) {
	const m = "module M (A : Set) {x : A} where|  postulate|    a : A|"
	const put = "post M.a <A:Set {x:$0}> : $1; "
	resolved(t, "P1602",
		// Applied to the parameters that are around both.
		[2]string{m + "  postulate|    b : Eq a a", put + "post M.b <A:Set {x:$0}> : ((Eq ((M.a $1) {$0})) ((M.a $1) {$0}))"},
		[2]string{m + "  postulate|    b : (y : A) -> Eq y a", put + "post M.b <A:Set {x:$0}> : (pi y:$1 ((Eq $0) ((M.a $2) {$1})))"},
		[2]string{m + "  postulate|    b : Eq M.a x", put + "post M.b <A:Set {x:$0}> : ((Eq ((M.a $1) {$0})) $0)"},
		[2]string{m + "postulate|  b : Eq M.a", put + "post b : (Eq M.a)"},
		[2]string{m + "module N (B : Set) where|  postulate|    b : Eq M.a B", put + "post N.b <B:Set> : ((Eq M.a) $0)"},
		[2]string{m + "module N (B : Set) where|  open M|  postulate|    b : Eq a B", put + "post N.b <B:Set> : ((Eq M.a) $0)"},
		[2]string{m + "  module N (B : Set) (y : B) where|    postulate|      b : Eq a A|    postulate|      c : Eq a b", put + "post M.N.b <A:Set {x:$0} B:Set y:$0> : ((Eq ((M.a $3) {$2})) $3); post M.N.c <A:Set {x:$0} B:Set y:$0> : ((Eq ((M.a $3) {$2})) ((((M.N.b $3) {$2}) $1) $0))"},
		// From beside, only those of the modules that are common; the opened, too.
		[2]string{m + "  module N (B : Set) where|    postulate|      b : B|  postulate|    c : N.b|  open N|  module O (C : Set) where|    postulate|      d : Eq b N.b M.N.b C|postulate|  e : M.N.b", put +
			"post M.N.b <A:Set {x:$0} B:Set> : $0; post M.c <A:Set {x:$0}> : ((M.N.b $1) {$0}); " +
			"post M.O.d <A:Set {x:$0} C:Set> : ((((Eq ((M.N.b $2) {$1})) ((M.N.b $2) {$1})) ((M.N.b $2) {$1})) $0); post e : M.N.b"},
		// What the prelude or the file declares has none.
		[2]string{"postulate|  a : Set|module M (A : Set) where|  postulate|    b : Eq a Top", "post a : Set; post M.b <A:Set> : ((Eq a) Top)"},
		// Constructors are not applied; families and functions are.
		[2]string{"module M (A : Set) where|  data D : Set where|    k : A -> D|  f : A -> D|  f x = k x|  g : D|  g = Eq k f", "data M.D <A:Set> : Set {type M.k : (pi _:$0 (M.D $1))}; def M.f <A:Set> : (pi _:$0 (M.D $1)) {1 (M.f $0) = (M.k $0)}; def M.g <A:Set> : (M.D $0) {0 M.g = ((Eq M.k) (M.f $0))}"},
		// A module without parameters between two with some.
		[2]string{"module L (x : Top) where|  module M where|    module N (y : Top) where|      postulate|        a : Eq x y|    postulate|      b : N.a|  postulate|    c : M.N.a", "post L.M.N.a <x:Top y:Top> : ((Eq $1) $0); post L.M.b <x:Top> : (L.M.N.a $0); post L.c <x:Top> : (L.M.N.a $0)"},
		// In a module's own parameters: those of the modules around it.
		[2]string{m + "  module N (y : a) where|    postulate|      b : Eq a y", put + "post M.N.b <A:Set {x:$0} y:((M.a $1) {$0})> : ((Eq ((M.a $2) {$1})) $0)"},
		[2]string{"module M (x : Top) (_ : Top) where|  postulate|    a : x|    b : a", "post M.a <x:Top _:Top> : $1; post M.b <x:Top _:Top> : ((M.a $1) $0)"},
		// Under binders of all kinds, and in clauses.
		[2]string{"module M (x : Top) where|  f : Top -> Top|  f y = let z : Top = f y in \\ w -> f z", "def M.f <x:Top> : (pi _:Top Top) {1 (M.f $0) = (let z : Top = ((M.f $1) $0) in (lam w ((M.f $3) $1)))}"},
	)
}

func TestP1602Families(t *testing.T) {
	resolved(t, "P1602",
		[2]string{"data D : Set where", "data D : Set"},
		[2]string{"data D (x : Top) {y : Eq x x} : Eq x y -> Set where|  k : (z : Top) -> D x z|  l m : D y", "data D <| x:Top {y:((Eq $0) $0)}> : (pi _:((Eq $1) $0) Set) {type k : (pi z:Top ((D $2) $0)); type l : (D $0); type m : (D $0)}"},
		[2]string{"module M (A : Set) where|  data D (x : A) : Set where|    k : D x -> A|  postulate|    a : D A", "data M.D <A:Set | x:$0> : Set {type M.k : (pi _:((M.D $1) $0) $2)}; post M.a <A:Set> : ((M.D $0) $0)"},
		[2]string{"module M (A : Set) where|  data D (A : A) : A where|    k : Eq A M.D", "data M.D <A:Set | A:$0> : $0 {type M.k : ((Eq $0) (M.D $1))}"},
		// Its own parameters hide its name.
		[2]string{"data D (D : Set) : Set where|  k : D", "data D <| D:Set> : Set {type k : $0}"},
		[2]string{"data D (_ : Set) (x : Set) : Set where|  k : D x", "data D <| _:Set x:Set> : Set {type k : (D $0)}"},
		[2]string{"private|  data D : Set where|    k : D", "data D : Set {type k : D}"},
		// Behind it its parameters are gone.
		[2]string{"data D (Top : Set) : Set where|  k : Top|postulate|  a : Top", "data D <| Top:Set> : Set {type k : $0}; post a : Top"},
	)
	l := read(t, "module M (A : Set) where|  data D (x : A) {y : x} : Set where|    k : D|  f : A|  f = k|  postulate|    a : A")
	out, _, e := scope.Resolve(l)
	if e != api.OK || len(out) != 3 || out[0].N != 1 || len(out[0].Binds) != 3 || out[1].N != 1 || out[2].N != 1 || out[0].Form != api.SData || out[1].Form != api.SDef || out[2].Form != api.SPost {
		t.Errorf("P1602: %s, %v", showStmts(out), e)
	}
}

func TestP1602Clauses(t *testing.T) {
	const d = "module C where|  data D : Set where|    k : D|    _s : D -> D -> D|open C|"
	const put = "data C.D : Set {type C.k : C.D; type C._s : (pi _:C.D (pi _:C.D C.D))}; def f : C.D "
	row := func(clause, want string) [2]string { return [2]string{d + "f : D|" + clause, put + "{" + want + "}"} }
	resolved(t, "P1602",
		row("f = f", "0 f = f"),
		row("f x = x", "1 (f $0) = $0"),
		row("f x y z = y", "3 (((f $2) $1) $0) = $1"),
		row("f k = k", "0 (f C.k) = C.k"),
		row("f C.k = C.k", "0 (f C.k) = C.k"),
		row("f refl tt = k", "0 ((f refl) tt) = C.k"),
		row("f x (_s y z) = Eq x y z", "3 ((f $2) ((C._s $1) $0)) = (((Eq $2) $1) $0)"),
		row("f (_s (_s x k) y) z = Eq x y z", "3 ((f ((C._s ((C._s $2) C.k)) $1)) $0) = (((Eq $2) $1) $0)"),
		row("f (C._s x y) = x", "2 (f ((C._s $1) $0)) = $1"),
		row("f {x} {k} {_s {y} z} = Eq x y z", "3 (((f {$2}) {C.k}) {((C._s {$1}) $0)}) = (((Eq $2) $1) $0)"),
		row("f _ x _ = x", "3 (((f $2) $1) $0) = $1"),
		row("f {_} x (k _) = x", "3 (((f {$2}) $1) (C.k $0)) = $1"),
		row("f ()", "0 (f ())"),
		row("f x () {y}", "2 (((f $1) ()) {$0})"),
		row("f (k ()) x", "1 ((f (C.k ())) $0)"),
		// A name that means no constructor, or nothing, is a variable.
		row("f f = f", "1 (f $0) = $0"),
		row("f D = D", "1 (f $0) = $0"),
		row("f Top = Top", "1 (f $0) = $0"),
		row("f x = \\ x -> x", "1 (f $0) = (lam x $0)"),
		row("f x = let y : x = x in Eq x y", "1 (f $0) = (let y : $0 = $0 in ((Eq $1) $0))"),
		// Each clause has variables of its own.
		row("f x = x|f y x = x|f = k", "1 (f $0) = $0; 2 ((f $1) $0) = $0; 0 f = C.k"),
		// Names of operators.
		[2]string{"data N : Set where|  z : N|  _:+_ : N -> N -> N|infixr 5 _:+_|infixl 3 _+_|_+_ : N|x :+ y :+ z + w = Eq x y w",
			"data N : Set {type z : N; type _:+_ : (pi _:N (pi _:N N))}; def _+_ : N {3 ((_+_ ((_:+_ $2) ((_:+_ $1) z))) $0) = (((Eq $2) $1) $0)}"},
		// Within parameters: the pattern variables are further in.
		[2]string{"module M (A : Set) {B : Set} where|  f : A|  f x (y) = Eq A B x y f", "def M.f <A:Set {B:Set}> : $1 {2 ((M.f $1) $0) = (((((Eq $3) $2) $1) $0) ((M.f $3) {$2}))}"},
		[2]string{"module M (A : Set) where|  data D : Set where|    k : A -> D|  f : D|  f (k A) = A|  f {M.k x} = A", "data M.D <A:Set> : Set {type M.k : (pi _:$0 (M.D $1))}; def M.f <A:Set> : (M.D $0) {1 (M.f (M.k $0)) = $0; 1 (M.f {(M.k $0)}) = $1}"},
		// A parameter of a constructor's name is what the name means.
		[2]string{"module M (refl : Top) where|  f : Top|  f refl = refl", "def M.f <refl:Top> : Top {1 (M.f $0) = $0}"},
		// A constructor that another module further in declares anew is what the name means.
		[2]string{d + "module M where|  data E : Set where|    k : E|  f : E|  f k C.k = k", "data C.D : Set {type C.k : C.D; type C._s : (pi _:C.D (pi _:C.D C.D))}; data M.E : Set {type M.k : M.E}; def M.f : M.E {0 ((M.f M.k) C.k) = M.k}"},
		[2]string{d + "module M where|  postulate|    k : D|  f : D|  f k = k", "data C.D : Set {type C.k : C.D; type C._s : (pi _:C.D (pi _:C.D C.D))}; post M.k : C.D; def M.f : C.D {1 (M.f $0) = $0}"},
		// What means two functions is no constructor.
		[2]string{"module M where|  postulate|    a : Set|module N where|  postulate|    a : Set|open M|open N|f : Set|f a = a", "post M.a : Set; post N.a : Set; def f : Set {1 (f $0) = $0}"},
	)
}

func TestP1602WrongPatterns(t *testing.T) {
	const d = "module C where|  data D : Set where|    k l : D|module E where|  data D : Set where|    k : D|module P where|  private|    data D : Set where|      p : D|  f : D|  f p = p|open C|f : D|"
	refused(t, "P1602", api.ErrPattern,
		d+"f (!x y) = x", d+"f (!f x) = x", d+"f !C.D = x", d+"f !C.x = x", d+"f !X.k = x", d+"f !Set = x", d+"f !(x , y) = x", d+"f x (!\\ x -> x) = x", d+"f (k (!l1 x)) = x", d+"f {!x y} = x", d+"f {!Set 3} = x", d+"f (k !Set) = x",
		d+"f (!let x : D = x in x) = x", d+"f (!fst x) = x", d+"f (!_ x) = x", d+"f (!() x) = x", d+"f (!C.D x) = x", d+"f (!(x : D) -> x) = x", d+"f (!(x : D) ** x) = x", d+"f x x1 (!x x) x = x", d+"f !P.p = x", d+"f (!(k , k) x) = x",
		"module M (refl : Top) where|  f : Top|  f (!refl x) = x",
	)
	refused(t, "P1602", api.ErrClash,
		d+"f x !x = x", d+"f x y !x = x", d+"f x {!x} = x", d+"f (k x) !x = x", d+"f (k x (l !x)) = x", d+"f x (k !x) = y", d+"f x !x (x y) = x", d+"f f !f = f", d+"f D !D = f",
		"module M (refl : Top) where|  f : Top|  f refl !refl = x", "module M (A : Set) where|  f : A|  f A !A = x",
	)
	refused(t, "P1602", api.ErrAmbiguous,
		d+"f = f|open E|g : E.D|g x !k = x", d+"f = f|open E|g : E.D|g (!k x) = x", d+"f = f|open E|g : E.D|g (l (!k x)) = x", d+"f = f|open E|g : E.D|g {!k} = x",
		"module M where|  postulate|    tt : Top|module N where|  data D : Set where|    tt : D|open M|open N|f : Top|f !tt = tt",
	)
	refused(t, "P1602", api.ErrScope, d+"f x = !y", d+"f k = k|f x = x|f y = !x", d+"f x = !C.x", d+"f _ = !y", d+"f x = x|g : !x|g = g", d+"f x = !X.x", d+"f k1 = Eq k1 !k2")
	// From the left: the left side ahead of the right one, a pattern ahead of the next.
	refused(t, "P1602", api.ErrClash, d+"f x !x (y z) = w")
	refused(t, "P1602", api.ErrPattern, d+"f x (!y z) x = w", d+"f (!x y z) = w")
	// A private block's and a module's variables are gone behind them.
	refused(t, "P1602", api.ErrScope, d+"f = f|private|  g : D|  g x = x|h : D|h = !x")
}

// Statements that no text comes to.
func TestP1602Fields(t *testing.T) {
	x := api.Exp{Form: api.XName, Name: "x", N: 7, Hid: true, Binds: []api.Bind{{Name: "y"}}, Kids: []api.Exp{{Form: api.XName, Name: "nothing"}}, At: 3}
	set := func(n, at int) api.Exp {
		return api.Exp{Form: api.XSet, N: n, At: at, Name: "s", Hid: true, Kids: []api.Exp{x}}
	}
	l := []api.Stmt{
		{Form: api.SPost, At: 1, Name: "no", Names: []string{"no"}, N: 3, Exp: x, Sub: []api.Stmt{{Form: api.SType, Names: []string{"a"}, Exp: set(2, 4), At: 2, N: 9, Name: "no", Left: x, Only: true, Using: []string{"no"}}}},
		{Form: api.SType, At: 10, Names: []string{"f"}, Name: "no", N: 8, Exp: set(-1, 12), Binds: []api.Bind{{Name: "x", Type: x}}},
		{Form: api.SClause, At: 20, Left: api.Exp{Form: api.XApp, At: 21, Name: "no", N: 4, Hid: true, Kids: []api.Exp{{Form: api.XName, Name: "f", At: 22}, {Form: api.XHole, At: 23, Name: "refl", Kids: []api.Exp{x}}}}, N: 5, Name: "no", Assoc: "l",
			Exp: api.Exp{Form: api.XLam, At: 24, Name: "no", Binds: []api.Bind{{Name: "x", Hid: true}}, Kids: []api.Exp{x}}},
		{Form: api.SData, At: 30, Name: "D", Names: []string{"no"}, N: 6, Exp: api.Exp{Form: api.XPair, At: 31, N: 3, Name: "no", Kids: []api.Exp{set(0, 32), set(0, 33)}}, Left: x, Sub: []api.Stmt{
			{Form: api.SType, Names: []string{"k"}, N: 3, Name: "no", At: 35, Exp: api.Exp{Form: api.XFst, At: 36, Hid: true, Kids: []api.Exp{{Form: api.XLocal, N: 5, At: 37, Name: "no"}}}},
			{Form: api.SOpen, Name: "nothing", Names: []string{"k", "a.b"}, Exp: api.Exp{Form: api.XName, Name: "nothing"}, At: 38}, // no constructor
		}},
		{Form: api.SFix, Names: []string{"nothing"}, At: 40}, {Form: 77, Name: "nothing", At: 41}, {Form: -1, Exp: x},
	}
	want := "post@2 name a exp Set2@4; def@10 name f exp Set@12 {clause@20 #1 left app!@21(f@22 $0@23) exp lam@24[{x}](" + "$0@3)}; " +
		"data@30 name D exp pair@31(Set0@32 Set0@33) {type@35 k exp fst@36($5@37)}"
	if out, at, e := scope.Resolve(l); showStmts(out) != want || at != 0 || e != api.OK {
		t.Errorf("P1602: %s, %d, %v, not %s", showStmts(out), at, e, want)
	}
	for _, names := range [][]string{{"a"}, {"a", "b"}, {}} {
		if out, at, e := scope.Resolve([]api.Stmt{{Form: api.SPost, Sub: []api.Stmt{{Form: api.SType, Names: names, Exp: x}}}}); out != nil || at != 3 || e != api.ErrScope {
			t.Errorf("P1601: %s, %d, %v", showStmts(out), at, e)
		}
	}
}

// A binder without a name binds all the same, and the name "_" means nothing.
func TestP1601Nameless(t *testing.T) {
	name := func(s string) api.Exp { return api.Exp{Form: api.XName, Name: s, At: 5} }
	post := func(x api.Exp) []api.Stmt {
		return []api.Stmt{{Form: api.SPost, Sub: []api.Stmt{{Form: api.SType, Names: []string{"a"}, Exp: x}}}}
	}
	for _, binder := range []string{"_", "x"} {
		top := name("Top")
		x := api.Exp{Form: api.XPi, Binds: []api.Bind{{Name: "z", Type: top}, {Name: binder, Type: name("z")}}, Kids: []api.Exp{name("z")}}
		out, _, e := scope.Resolve(post(x))
		if want := "post a : (pi z:Top " + binder + ":$0 $1)"; brief(out) != want || e != api.OK {
			t.Errorf("P1601: %s, %v, not %s", brief(out), e, want)
		}
		x.Kids[0] = name("_")
		if out, at, e := scope.Resolve(post(x)); out != nil || at != 5 || e != api.ErrScope {
			t.Errorf("P1601: %s, %d, %v", brief(out), at, e)
		}
	}
}
