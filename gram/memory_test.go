package gram_test

import (
	"math/rand"
	"reflect"
	"sort"
	"strings"
	"sync"
	"testing"

	"telamon/api"
	"telamon/gram"
)

const everything = `module M (A B : (x y : Set -> Set 0) (z : C {d}) -> (u v : \ (w t : D E) -> w) ** F) {c d e : G H} where
  data D (a b : A B) {c : C} : (x y z : A B) -> Set where
    k l : D a
    m : (p q : {r s : A B} -> C) -> D
  postulate
    f g : A ** B
  private
    open M using (a ; b) hiding (c ; d) renaming (e to f ; g to h)
  infixl 6 _+_ _*_
  f {x} (y , z , w) () = let a : (x y : A B) -> C = b ; c : D = \ {x} y (z w : E F) -> fst (snd x) in h _ {A}
  g a
`

// span is the memory of a list, with its room.
type span struct{ from, to uintptr }

// spans finds the memory of all lists within x.
func spans(x reflect.Value, out *[]span) {
	switch x.Kind() {
	case reflect.Slice:
		if x.Cap() > 0 {
			*out = append(*out, span{x.Pointer(), x.Pointer() + uintptr(x.Cap())*x.Type().Elem().Size()})
		}
		for i := range x.Len() {
			spans(x.Index(i), out)
		}
	case reflect.Struct:
		for i := range x.NumField() {
			spans(x.Field(i), out)
		}
	}
}

// apart: no two lists of all of l share memory.
func apart(t *testing.T, s string, l ...[]api.Stmt) {
	t.Helper()
	var all []span
	for _, x := range l {
		spans(reflect.ValueOf(x), &all)
	}
	sort.Slice(all, func(i, j int) bool { return all[i].from < all[j].from })
	for i := 1; i < len(all); i++ {
		if all[i].from < all[i-1].to {
			t.Fatalf("P1403: %q: two lists share memory", s)
		}
	}
}

func TestP1403Memory(t *testing.T) {
	r := rand.New(rand.NewSource(1403))
	texts := []string{everything, "f : (x y : A) -> B", "f : (x y z : (u v w : (a b : A B) -> C) -> D) -> (x : (y z : A B) -> C) -> E"}
	for range 1000 {
		m := newMaker(r, r.Intn(60))
		m.lines(m.item)
		texts = append(texts, m.text.String())
	}
	for _, s := range texts {
		first, _, e := gram.Parse(s)
		second, _, _ := gram.Parse(s)
		if e == api.OK && len(first) == 0 {
			t.Fatalf("P1403: %q: nothing", s)
		}
		apart(t, s, first, second)
	}
}

// What a call answers hangs on its text alone.
func TestP1403Again(t *testing.T) {
	bad := "f = (a : b) c"
	l, at, e := gram.Parse(everything)
	if e != api.OK || at != 0 {
		t.Fatalf("P1403: %d, %v", at, e)
	}
	want := showAll(l)
	var wait sync.WaitGroup
	for range 8 {
		wait.Add(1)
		go func() {
			defer wait.Done()
			for range 20 {
				l, _, _ := gram.Parse(everything)
				if showAll(l) != want {
					t.Errorf("P1403: %s, not %s", showAll(l), want)
				}
				clear(l)
				if l, at, e := gram.Parse(bad); l != nil || at != 12 || e != api.ErrToken {
					t.Errorf("P1403: %s, %d, %v", showAll(l), at, e)
				}
			}
		}()
	}
	wait.Wait()
}

// Nothing that can be handed in brings a call down, or holds it up.
func TestP1401AnyText(t *testing.T) {
	r := rand.New(rand.NewSource(1401))
	good := []byte(everything)
	for range 20000 {
		b := append([]byte(nil), good...)
		for range 1 + r.Intn(3) {
			i := r.Intn(len(b))
			switch r.Intn(3) {
			case 0:
				b = append(b[:i], b[i+1+r.Intn(len(b)-i):]...)
			case 1:
				b[i] = byte(r.Intn(256))
			case 2:
				b[i] = "(){};:,\\_ \n"[r.Intn(11)]
			}
			if len(b) == 0 {
				break
			}
		}
		l, at, e := gram.Parse(string(b))
		if at < 0 || at > len(b) || e != api.OK && l != nil || e == api.OK && at != 0 {
			t.Fatalf("P1401: %q: %d, %v", b, at, e)
		}
	}
}

// Long files, as long as they may be.
func TestP1401Long(t *testing.T) {
	taken(t,
		strings.Repeat("a\n", 6000), strings.Repeat("a ", 19000), "f = ("+strings.Repeat("a,", 9000)+"a)", "f = \\ "+strings.Repeat("x ", 19000)+"-> x", "f : "+strings.Repeat("(a : b)", 3900)+"-> c",
		strings.Repeat("a ", 19000)+": b", "data D "+strings.Repeat("{a : b}", 3900)+": c where", "f = let "+strings.Repeat("a : b = c;", 3000)+"a : b = c in d", "f = "+strings.Repeat("(a b c)", 3900), "f : ("+strings.Repeat("a ", 9000)+": b c d e) -> f",
		"open M using ("+strings.Repeat("a;", 9000)+"a)", "infix 3 "+strings.Repeat("a ", 19000), "f = a "+strings.Repeat("{a} ", 6000),
	)
}

// Binds of two names within one another's types: each of them has twice what stands within. What comes to more than the bound ends all the same, and soon.
func TestP1401Doubled(t *testing.T) {
	for _, many := range []int{1, 5, 12} {
		l, _, e := gram.Parse("f : " + nested("(x y : ?) -> b", many, "c"))
		if e != api.OK || exps(l[0].Exp) != 1<<many+3*(1<<many-1) {
			t.Errorf("P1402: %d within one another: %d, %v", many, exps(l[0].Exp), e)
		}
	}
	for _, many := range []int{30, 45, 58} {
		for _, s := range []string{"f : ", "f = a ", "data D (a : "} {
			gram.Parse(s + nested("((x y z : ?) -> b)", many/2, "c"))
			gram.Parse(s + nested("(x y : ?) ** b", many, "c"))
			gram.Parse(s + nested("\\ {x y : ?} -> b", many, "c"))
		}
	}
}

// exps is how many expressions x is made of.
func exps(x api.Exp) int {
	n := 1
	for _, b := range x.Binds {
		n += exps(b.Type)
	}
	for _, k := range x.Kids {
		n += exps(k)
	}
	return n
}
