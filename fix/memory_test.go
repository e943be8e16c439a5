package fix_test

import (
	"math/rand"
	"reflect"
	"sort"
	"strings"
	"sync"
	"testing"

	"telamon/api"
	"telamon/fix"
	"telamon/gram"
)

const everything = `_+_ _*_ [_] -_ if_then_else_ : A B
infixl 6 _+_
infixl 7 _*_
module M (A B : (x y : Set + Set 0) -> (z : C {d}) -> (u v : \ (w t : D E) -> w) ** F) {c d e : G H} where
  data _DD_ (a b : A B) {c : C} : (x y z : A * B) -> Set where
    k l_ : a DD b
    m : (p q : {r s : A B} -> C) -> [ D ]
  postulate
    f g : A ** B
  private
    open M using (a ; b) hiding (c ; d) renaming (e to f ; g to h)
  f {x} (y , z + w , w) () = let a : (x y : A B) -> C = - b ; c : D = \ {x} y (z w : E F) -> fst (snd x) in h _ {A + B}
  g a b
  a + b = if a + b * c then [ d ] e {f} else Set 3
infix 3 _*'_
_*'_ : A
`

// span is the memory of a list, with its room.
type span struct{ from, to uintptr }

// spans finds the memory of all lists within x.
func spans(x reflect.Value, out *[]span) {
	switch x.Kind() {
	case reflect.Slice:
		if x.Cap() > 0 {
			*out = append(*out, span{x.Pointer(), x.Pointer() + uintptr(x.Cap())*x.Type().Elem().Size()})
		}
		for i := range x.Len() {
			spans(x.Index(i), out)
		}
	case reflect.Struct:
		for i := range x.NumField() {
			spans(x.Field(i), out)
		}
	}
}

// apart: no two lists of all of l share memory.
func apart(t *testing.T, s string, l ...any) {
	t.Helper()
	var all []span
	for _, x := range l {
		spans(reflect.ValueOf(x), &all)
	}
	sort.Slice(all, func(i, j int) bool { return all[i].from < all[j].from })
	for i := 1; i < len(all); i++ {
		if all[i].from < all[i-1].to {
			t.Fatalf("P1504: %q: two lists share memory", s)
		}
	}
}

func TestP1504Memory(t *testing.T) {
	texts := []string{everything, "f = a b", "f = a", "f = a {b}", "_+_ : A\nf = a + b c", "f : (x y : A B) -> C", "open M using (a ; b) hiding (c ; d) renaming (e to f)", "a_ b_ : A\ninfix 5 a_ b_", "[_] : A\nf = [ a b ] {c}", "data D (x y : A B) : C D where\n  k l : A B"}
	for _, s := range texts {
		l := parsed(t, s)
		first, _, e := fix.Resolve(l)
		second, _, _ := fix.Resolve(l)
		ops, _, _ := fix.Table(l)
		again, _, _ := fix.Table(l)
		if e != api.OK || len(first) == 0 {
			t.Fatalf("P1504: %.200q: %v", s, e)
		}
		apart(t, s, l, first, second, ops, again)
		x := l[len(l)-1].Exp
		one, _, _ := fix.Exp(ops, x)
		two, _, _ := fix.Exp(ops, x)
		apart(t, s, x, ops, one, two)
	}
}

// roomy is x with room behind each list, filled with what is to stay there.
func roomy(x reflect.Value) {
	switch x.Kind() {
	case reflect.Slice:
		for i := range x.Len() {
			roomy(x.Index(i))
		}
		n := x.Len()
		out := reflect.MakeSlice(x.Type(), n+3, n+3)
		reflect.Copy(out, x)
		for i := range 3 {
			mark(out.Index(n + i))
		}
		x.Set(out.Slice(0, n))
	case reflect.Struct:
		for i := range x.NumField() {
			roomy(x.Field(i))
		}
	}
}

func mark(x reflect.Value) {
	switch x.Kind() {
	case reflect.String:
		x.SetString("room_")
	case reflect.Int:
		x.SetInt(77)
	case reflect.Struct:
		for i := range x.NumField() {
			mark(x.Field(i))
		}
	case reflect.Array:
		for i := range x.Len() {
			mark(x.Index(i))
		}
	}
}

// whole is x with what stands in the room of its lists, as memory of its own.
func whole(x reflect.Value) reflect.Value {
	out := reflect.New(x.Type()).Elem()
	switch x.Kind() {
	case reflect.Slice:
		out = reflect.MakeSlice(x.Type(), x.Cap(), x.Cap())
		for i := range x.Cap() {
			out.Index(i).Set(whole(x.Slice(0, x.Cap()).Index(i)))
		}
	case reflect.Struct:
		for i := range x.NumField() {
			out.Field(i).Set(whole(x.Field(i)))
		}
	default:
		out.Set(x)
	}
	return out
}

// What is handed in stays as it is, its room, too; a later call tells the same.
func TestP1504Unchanged(t *testing.T) {
	for _, s := range []string{everything, "f = a b", everything + "f = a + + b", everything + "infix 5 _+_", everything + "infix 5 x", "a__ : A", "_+_ : A\nf = \\ (x y : A + B) -> x {y}"} {
		l, _, e := gram.Parse(s)
		if e != api.OK {
			t.Fatal(s, e)
		}
		roomy(reflect.ValueOf(&l).Elem())
		was := whole(reflect.ValueOf(l)).Interface()
		out, at, e := fix.Resolve(l)
		want := showStmts(out)
		ops, tableAt, tableE := fix.Table(l)
		if !reflect.DeepEqual(was, whole(reflect.ValueOf(l)).Interface()) {
			t.Fatalf("P1504: %q: what is handed in is changed", s)
		}
		spoil(reflect.ValueOf(out))
		again, place, e2 := fix.Resolve(l)
		if showStmts(again) != want || at != place || e != e2 {
			t.Errorf("P1504: %q: %s, %d, %v, not %s, %d, %v", s, showStmts(again), place, e2, want, at, e)
		}
		wantOps := showOps(ops)
		spoil(reflect.ValueOf(ops))
		ops, place, e2 = fix.Table(l)
		if showOps(ops) != wantOps || place != tableAt || e2 != tableE {
			t.Errorf("P1504: %q: %s, not %s", s, showOps(ops), wantOps)
		}
		x := l[len(l)-1].Exp
		roomy(reflect.ValueOf(&ops).Elem())
		was = whole(reflect.ValueOf(ops)).Interface()
		fix.Exp(ops, x)
		if !reflect.DeepEqual(was, whole(reflect.ValueOf(ops)).Interface()) {
			t.Errorf("P1504: %q: the operators are changed", s)
		}
	}
}

// spoil writes over all lists within x.
func spoil(x reflect.Value) {
	switch x.Kind() {
	case reflect.Slice:
		for i := range x.Len() {
			spoil(x.Index(i))
			x.Index(i).SetZero()
		}
	case reflect.Struct:
		for i := range x.NumField() {
			spoil(x.Field(i))
		}
	}
}

func TestP1504Again(t *testing.T) {
	l := parsed(t, everything)
	out, _, e := fix.Resolve(l)
	if e != api.OK {
		t.Fatal(e)
	}
	want := showStmts(out)
	var wait sync.WaitGroup
	for range 8 {
		wait.Add(1)
		go func() {
			defer wait.Done()
			for range 50 {
				if out, at, e := fix.Resolve(l); showStmts(out) != want || at != 0 || e != api.OK {
					t.Errorf("P1504: %s, %d, %v, not %s", showStmts(out), at, e, want)
				}
			}
		}()
	}
	wait.Wait()
}

// Long files, deep expressions and rows that have many meanings end all the same, and soon.
func TestP1502Great(t *testing.T) {
	r := rand.New(rand.NewSource(1502))
	texts := []string{
		common + strings.Repeat("x = a + b\n", 3000), common + "x = (" + strings.Repeat("a + b,", 4000) + "a b)", common + "x = \\ " + strings.Repeat("x ", 18000) + "-> x", common + "x : " + strings.Repeat("(a : b c)", 3000) + "-> c d",
		strings.Repeat("_a_ ", 15000) + ": A", "_a_ : A\n" + strings.Repeat("x = b a b\n", 3000),
		common + strings.Repeat("x = "+strings.Repeat("- ", 59)+"a\n", 100), common + strings.Repeat("x = "+strings.Repeat("[ a ] ", 20)+"\n", 100),
	}
	var b strings.Builder
	b.WriteString("_a_ _b_ _c_ a_ b_ c_ _a _b _c : A\n")
	for range 900 {
		s := "_"
		for range 10 {
			s += string(rune('a'+r.Intn(3))) + "_"
		}
		b.WriteString(s + " : A\n")
	}
	many := b.String()
	texts = append(texts, many+"x = "+strings.Repeat("x a x b ", 15), many+"x = "+strings.Repeat("x a ", 29)+"x", many+"x = x "+strings.Repeat("a ", 58)+"x")
	for _, s := range texts {
		l := parsed(t, s)
		out, at, e := fix.Resolve(l)
		if e != api.OK && (out != nil || e != api.ErrOperator) || e == api.OK && (at != 0 || len(out) != len(l)) {
			t.Errorf("P1502: %.100q: %d, %v", s, at, e)
		}
	}
	row := strings.Fields(strings.Repeat("x a ", 30))
	ops := []api.Op{op("_a_", 1, "l"), op("_a_", 2, "r"), op("_a", 3, ""), op("a_", 4, ""), op("_a_a_", 5, ""), op("a_a", 6, ""), op("_a_a", 7, "")}
	if _, at, e := fix.Exp(ops, api.Exp{Form: api.XRaw, At: 5, Kids: rowOf(row)}); at != 5 || e != api.ErrOperator {
		t.Errorf("P1502: %d, %v", at, e)
	}
	name := api.Exp{Form: api.XName, Name: "a"}
	x := api.Exp{Form: api.XRaw, Kids: []api.Exp{name, name}}
	s := []api.Stmt{{Form: api.SClause, Left: x}}
	for range 1 << 16 {
		x = api.Exp{Form: api.XFst, Kids: []api.Exp{x}}
		s = []api.Stmt{{Form: api.SPriv, Sub: s}}
	}
	out, _, e := fix.Exp(nil, x)
	for e == api.OK && out.Form == api.XFst {
		out = out.Kids[0]
	}
	if show(out) != "app@0(a@0 a@0)" {
		t.Errorf("P1502: %s, %v", show(out), e)
	}
	l, _, e := fix.Resolve(s)
	for e == api.OK && l[0].Form == api.SPriv {
		l = l[0].Sub
	}
	if showStmts(l) != "clause@0 left app@0(a@0 a@0)" {
		t.Errorf("P1503: %s, %v", showStmts(l), e)
	}
}
