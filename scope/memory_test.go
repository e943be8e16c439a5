package scope_test

import (
	"math/rand"
	"reflect"
	"sort"
	"strconv"
	"strings"
	"sync"
	"testing"

	"telamon/api"
	"telamon/scope"
)

const everything = `data Nat : Set where
  zero : Nat
  suc : Nat -> Nat
module M (A : Set) {x : A} where
  private
    a : A
    a = x
  data Vec (B : Set) {y : B} : Nat -> Set where
    nil nil' : Vec B zero
    _::_ : {n : Nat} -> B -> Vec B n -> Vec B (suc n)
  infixr 5 _::_
  module N (n : Nat) where
    f : (y : A) -> A ** Nat
    f y = let z : A = y ; w : Nat = n in (z , w)
    f _ = (a , n)
    postulate
      p q : Eq f f -> fst (f a)
  g : {n : Nat} -> Vec A n -> Nat
  g {n} (x :: xs) = \ {y} (z w : A) -> N.f n (snd y)
  g {suc n} ()
  g nil = _
open M using (a')
`

// span is the memory of a list, with its room.
type span struct{ from, to uintptr }

// spans finds the memory of all lists within x.
func spans(x reflect.Value, out *[]span) {
	switch x.Kind() {
	case reflect.Slice:
		if x.Cap() > 0 {
			*out = append(*out, span{x.Pointer(), x.Pointer() + uintptr(x.Cap())*x.Type().Elem().Size()})
		}
		for i := range x.Len() {
			spans(x.Index(i), out)
		}
	case reflect.Struct:
		for i := range x.NumField() {
			spans(x.Field(i), out)
		}
	}
}

// apart: no two lists of all of l share memory.
func apart(t *testing.T, s string, l ...any) {
	t.Helper()
	var all []span
	for _, x := range l {
		spans(reflect.ValueOf(x), &all)
	}
	sort.Slice(all, func(i, j int) bool { return all[i].from < all[j].from })
	for i := 1; i < len(all); i++ {
		if all[i].from < all[i-1].to {
			t.Fatalf("P1603: %q: two lists share memory", s)
		}
	}
}

func texts() []string {
	return []string{
		strings.ReplaceAll(everything, "using (a')", "using (Vec) renaming (g to h)") + "open M hiding (g)\n",
		"postulate\n  a b : Top -> (x y : Top) -> Eq x y", "data D (x y : Top) : Top -> Set where\n  k l : D x y -> Eq x y",
		"module M (x : Top) (y : Eq x x) where\n  postulate\n    a b : Eq x y\n  f : a\n  f (x) {y} = a\n  f (refl x) = b",
		"module M (x : Top) where\n  module N (y : Eq x x) where\n    data D (z : Eq x y) : Set where\n      k l : D z\n    f : D y\n    f _ = k\n    f = f",
	}
}

func TestP1603Memory(t *testing.T) {
	for _, s := range texts() {
		l := read(t, s)
		first, _, e := scope.Resolve(l)
		second, _, _ := scope.Resolve(l)
		if e != api.OK || len(first) == 0 {
			t.Fatalf("P1603: %.200q: %v", s, e)
		}
		apart(t, s, l, first, second)
	}
}

// roomy is x with room behind each list, filled with what is to stay there.
func roomy(x reflect.Value) {
	switch x.Kind() {
	case reflect.Slice:
		for i := range x.Len() {
			roomy(x.Index(i))
		}
		n := x.Len()
		out := reflect.MakeSlice(x.Type(), n+3, n+3)
		reflect.Copy(out, x)
		for i := range 3 {
			mark(out.Index(n + i))
		}
		x.Set(out.Slice(0, n))
	case reflect.Struct:
		for i := range x.NumField() {
			roomy(x.Field(i))
		}
	}
}

func mark(x reflect.Value) {
	switch x.Kind() {
	case reflect.String:
		x.SetString("room_")
	case reflect.Int:
		x.SetInt(77)
	case reflect.Struct:
		for i := range x.NumField() {
			mark(x.Field(i))
		}
	case reflect.Array:
		for i := range x.Len() {
			mark(x.Index(i))
		}
	}
}

// whole is x with what stands in the room of its lists, as memory of its own.
func whole(x reflect.Value) reflect.Value {
	out := reflect.New(x.Type()).Elem()
	switch x.Kind() {
	case reflect.Slice:
		out = reflect.MakeSlice(x.Type(), x.Cap(), x.Cap())
		for i := range x.Cap() {
			out.Index(i).Set(whole(x.Slice(0, x.Cap()).Index(i)))
		}
	case reflect.Struct:
		for i := range x.NumField() {
			out.Field(i).Set(whole(x.Field(i)))
		}
	default:
		out.Set(x)
	}
	return out
}

// spoil writes over all lists within x.
func spoil(x reflect.Value) {
	switch x.Kind() {
	case reflect.Slice:
		for i := range x.Len() {
			spoil(x.Index(i))
			x.Index(i).SetZero()
		}
	case reflect.Struct:
		for i := range x.NumField() {
			spoil(x.Field(i))
		}
	}
}

// What is handed in stays as it is, its room, too; a later call tells the same.
func TestP1603Unchanged(t *testing.T) {
	for _, s := range append(texts(), everything, "postulate\n  a : Top\n  b : a a c", "f : Top\nf x y {z} x = x", "data D (x : Top) : Set where\n  k : D x\n  k : D x") {
		l := read(t, s)
		roomy(reflect.ValueOf(&l).Elem())
		was := whole(reflect.ValueOf(l)).Interface()
		out, at, e := scope.Resolve(l)
		want := showStmts(out)
		if !reflect.DeepEqual(was, whole(reflect.ValueOf(l)).Interface()) {
			t.Fatalf("P1603: %q: what is handed in is changed", s)
		}
		spoil(reflect.ValueOf(out))
		again, place, e2 := scope.Resolve(l)
		if showStmts(again) != want || at != place || e != e2 {
			t.Errorf("P1603: %q: %s, %d, %v, not %s, %d, %v", s, showStmts(again), place, e2, want, at, e)
		}
	}
}

func TestP1603Again(t *testing.T) {
	l := read(t, texts()[0])
	out, _, e := scope.Resolve(l)
	if e != api.OK {
		t.Fatal(e)
	}
	want := showStmts(out)
	var wait sync.WaitGroup
	for range 8 {
		wait.Add(1)
		go func() {
			defer wait.Done()
			for range 50 {
				if out, at, e := scope.Resolve(l); showStmts(out) != want || at != 0 || e != api.OK {
					t.Errorf("P1603: %s, %d, %v, not %s", showStmts(out), at, e, want)
				}
			}
		}()
	}
	wait.Wait()
}

func post(names []string, x api.Exp) api.Stmt {
	return api.Stmt{Form: api.SPost, Sub: []api.Stmt{{Form: api.SType, Names: names, Exp: x}}}
}

func many(n int, of string) []string {
	var l []string
	for i := range n {
		l = append(l, of+strconv.Itoa(i))
	}
	return l
}

// Deep statements and expressions end all the same, and soon.
func TestP1603Deep(t *testing.T) {
	top, x := api.Exp{Form: api.XName, Name: "Top"}, api.Exp{Form: api.XName, Name: "x0"}
	privs, mods := []api.Stmt{post([]string{"a"}, top)}, []api.Stmt{post([]string{"a"}, top)}
	pattern, row := api.Exp{Form: api.XName, Name: "v"}, api.Exp{Form: api.XName, Name: "f"}
	for i := range 1 << 16 {
		x = api.Exp{Form: api.XLam, Binds: []api.Bind{{Name: "x" + strconv.Itoa(1<<16-1-i)}}, Kids: []api.Exp{x}}
		privs = []api.Stmt{{Form: api.SPriv, Sub: privs}}
		mods = []api.Stmt{{Form: api.SModule, Name: "M", Sub: mods}}
		pattern = api.Exp{Form: api.XApp, Kids: []api.Exp{{Form: api.XName, Name: "refl"}, pattern}}
		row = api.Exp{Form: api.XApp, Kids: []api.Exp{row, {Form: api.XName, Name: "v" + strconv.Itoa(i)}}}
	}
	out, _, e := scope.Resolve([]api.Stmt{post([]string{"a"}, x)})
	if e != api.OK {
		t.Fatalf("P1603: %v", e)
	}
	x = out[0].Exp
	for x.Form == api.XLam {
		x = x.Kids[0]
	}
	if x.Form != api.XLocal || x.N != 1<<16-1 {
		t.Errorf("P1603: %s", show(x))
	}
	if out, _, e := scope.Resolve(privs); brief(out) != "post a : Top" || e != api.OK {
		t.Errorf("P1603: %s, %v", brief(out), e)
	}
	if out, _, e := scope.Resolve(mods); brief(out) != "post "+strings.Repeat("M.", 1<<16)+"a : Top" || e != api.OK {
		t.Errorf("P1603: %.200s, %v", brief(out), e)
	}
	left := api.Exp{Form: api.XApp, Kids: []api.Exp{{Form: api.XName, Name: "f"}, pattern}}
	out, _, e = scope.Resolve([]api.Stmt{{Form: api.SType, Names: []string{"f"}, Exp: top}, {Form: api.SClause, Left: left, Exp: api.Exp{Form: api.XName, Name: "v"}}, {Form: api.SClause, Left: row, Exp: api.Exp{Form: api.XName, Name: "v7"}}})
	if e != api.OK || len(out) != 1 || len(out[0].Sub) != 2 || out[0].Sub[0].N != 1 || out[0].Sub[1].N != 1<<16 || out[0].Sub[0].Exp.N != 0 || out[0].Sub[1].Exp.N != 1<<16-8 {
		t.Errorf("P1603: %v", e)
	}
}

// Many names, opens, modules and parameters do not take long.
func TestP1603Many(t *testing.T) {
	top := api.Exp{Form: api.XName, Name: "Top"}
	names := many(20000, "a")
	l := []api.Stmt{{Form: api.SModule, Name: "M", Sub: []api.Stmt{post(names, top)}}}
	for _, name := range names {
		l = append(l, api.Stmt{Form: api.SOpen, Name: "M"}, api.Stmt{Form: api.SOpen, Name: "M", Only: true, Using: []string{name}}, api.Stmt{Form: api.SOpen, Name: "M", Hiding: []string{name}}, api.Stmt{Form: api.SModule, Name: name, Sub: []api.Stmt{post([]string{"b"}, api.Exp{Form: api.XName, Name: "M." + name})}})
	}
	l = append(l, post([]string{"z"}, api.Exp{Form: api.XName, Name: "a19999"}))
	out, at, e := scope.Resolve(l)
	if e != api.OK || len(out) != 40001 || brief(out[40000:]) != "post z : M.a19999" || brief(out[20001:20002]) != "post a1.b : M.a1" {
		t.Errorf("P1603: %d, %v", at, e)
	}
	// Each statement's own memory, and each name's parameters.
	var binds []api.Bind
	for _, name := range many(300, "p") {
		binds = append(binds, api.Bind{Name: name, Type: top, Hid: len(name)%2 == 0})
	}
	out, _, e = scope.Resolve([]api.Stmt{{Form: api.SModule, Name: "M", Binds: binds, Sub: []api.Stmt{post(many(300, "a"), top), post(many(300, "b"), api.Exp{Form: api.XName, Name: "a7"})}}})
	if e != api.OK || len(out) != 600 || len(out[599].Binds) != 300 || out[599].N != 300 || out[599].Exp.Kids[1].N != 0 {
		t.Errorf("P1603: %v", e)
	}
}

// bent is l with something in it that no text comes to.
func bent(r *rand.Rand, x reflect.Value) {
	switch x.Kind() {
	case reflect.Slice:
		if n := x.Len(); n > 0 && r.Intn(12) == 0 {
			x.Set(x.Slice(0, r.Intn(n)))
		}
		for i := range x.Len() {
			bent(r, x.Index(i))
		}
	case reflect.Struct:
		for i := range x.NumField() {
			bent(r, x.Field(i))
		}
	case reflect.Int:
		if r.Intn(20) == 0 {
			x.SetInt(int64([]int{-1, 0, 1, 2, 5, 6, 9, 14, 15, 1000, -1 << 63, 1<<63 - 1}[r.Intn(12)]))
		}
	case reflect.String:
		if r.Intn(20) == 0 {
			x.SetString([]string{"", ".", "..", "a.", ".a", "_", "M", "M.N", "\xff"}[r.Intn(9)])
		}
	}
}

// No statements make it panic; beside an error nothing is answered.
func TestP1603Bent(t *testing.T) {
	r := rand.New(rand.NewSource(1603))
	good := 0
	for range 3000 {
		l := whole(reflect.ValueOf(read(t, texts()[r.Intn(4)]))).Interface().([]api.Stmt)
		for range 1 + r.Intn(2) {
			bent(r, reflect.ValueOf(&l[r.Intn(len(l))]).Elem())
		}
		was := whole(reflect.ValueOf(l)).Interface()
		out, at, e := scope.Resolve(l)
		if e != api.OK && out != nil || e == api.OK && at != 0 {
			t.Fatalf("P1603: %s: %s, %d, %v", showStmts(l), showStmts(out), at, e)
		}
		if e == api.OK {
			good++
			apart(t, "bent", l, out)
		}
		if !reflect.DeepEqual(was, whole(reflect.ValueOf(l)).Interface()) {
			t.Fatalf("P1603: %s: what is handed in is changed", showStmts(l))
		}
	}
	if good < 30 {
		t.Errorf("P1603: %d are good", good)
	}
}
