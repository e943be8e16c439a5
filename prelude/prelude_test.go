package prelude_test

import (
	"reflect"
	"testing"

	"telamon/api"
	"telamon/bytes"
	"telamon/data"
	"telamon/elim"
	"telamon/kernel"
	"telamon/prelude"
	"telamon/sig"
	"telamon/term"
)

// written is the chapter's four, by indices.
func written() []api.Decl {
	v := variable
	same := eq(v(2), v(1), v(0)) // Eq A a b, with nothing behind b
	uip := pi(sort(l()), pi(v(0), pi(v(1), pi(same, pi(eq(v(3), v(2), v(1)), eq(eq(v(4), v(3), v(2)), v(1), v(0)))))))
	return []api.Decl{
		{
			Kind: api.DData, Name: "Eq", Levels: 1, Params: 2,
			Type:  pi(sort(l()), pi(v(0), pi(v(1), sort(l())))),
			Ctors: []api.Ctor{{Name: "refl", Type: hidden(pi(sort(l()), hidden(pi(v(0), eq(v(1), v(0), v(0))))))}},
		},
		{Kind: api.DData, Name: "Top", Type: set(0), Ctors: []api.Ctor{{Name: "tt", Type: at("Top")}}},
		{Kind: api.DData, Name: "Bot", Type: set(0)},
		{Kind: api.DAxiom, Name: "uip", Levels: 1, Type: uip},
	}
}

func TestP1101Decls(t *testing.T) {
	got, want := prelude.Decls(), written()
	if len(got) != len(want) {
		t.Fatalf("P1101: %d declarations", len(got))
	}
	for i, d := range want {
		if !reflect.DeepEqual(got[i], d) {
			t.Errorf("P1101: %s: %+v, not %+v", d.Name, got[i], d)
		}
	}
}

// Hid is at two places in all.
func TestP1101Hid(t *testing.T) {
	l := prelude.Decls()
	count := 0
	for i := range l {
		terms(&l[i], func(x *api.Term) {
			if x.Hid {
				count++
			}
		})
	}
	refl := l[0].Ctors[0].Type
	if count != 2 || !refl.Hid || !refl.Kids[1].Hid || refl.Form != api.TPi || refl.Kids[1].Form != api.TPi {
		t.Errorf("P1101: %d Hids: %+v", count, refl)
	}
}

// Eq stands at v0 wherever it stands, the outer one of uip too; no other constant has levels.
func TestP1101Levels(t *testing.T) {
	count := 0
	for _, d := range prelude.Decls() {
		terms(&d, func(x *api.Term) {
			want := []api.Level(nil)
			if x.Name == "Eq" {
				count++
				want = []api.Level{l()}
			}
			if x.Form == api.TConst && !reflect.DeepEqual(x.Levels, want) {
				t.Errorf("P1101: %s: %s at %v", d.Name, x.Name, x.Levels)
			}
		})
	}
	if count != 5 {
		t.Errorf("P1101: Eq stands at %d places", count)
	}
}

func TestP1101Bytes(t *testing.T) {
	b, e := bytes.Decls(prelude.Decls())
	if e != api.OK {
		t.Fatalf("P1101: %v", e)
	}
	l, e := bytes.ReadDecls(b)
	if e != api.OK || !reflect.DeepEqual(l, prelude.Decls()) {
		t.Errorf("P1101: read again: %v, %+v", e, l)
	}
}

// What is answered is new memory, and each list its own: each place can be given a number that no other has.
func TestP1101ListsOfTheirOwn(t *testing.T) {
	list := prelude.Decls()
	mark := func(set func(place *int, n int)) {
		n := 0
		next := func(place *int) {
			n++
			set(place, n)
		}
		for i := range list {
			next(&list[i].Params)
			terms(&list[i], func(x *api.Term) {
				next(&x.N)
				for j := range x.Levels {
					next(&x.Levels[j].N)
					for k := range x.Levels[j].Vars {
						next(&x.Levels[j].Vars[k].Add)
					}
				}
			})
		}
	}
	mark(func(place *int, n int) { *place = n })
	mark(func(place *int, n int) {
		if *place != n {
			t.Errorf("P1101: the places %d and %d are one", *place, n)
		}
	})
	for i := range list {
		for j := range list[i].Ctors {
			list[i].Ctors[j].Name = "?"
		}
		list[i].Name = "?"
	}
	if !reflect.DeepEqual(prelude.Decls(), written()) || !reflect.DeepEqual(prelude.Sig().List(), written()) {
		t.Error("P1101: what was answered is kept")
	}
}

func TestP1102Well(t *testing.T) {
	list := prelude.Decls()
	for n := range len(list) + 1 {
		if at, e := data.Well(list[:n], much); at != -1 || e != api.OK {
			t.Errorf("P1102: the first %d: %d, %v", n, at, e)
		}
	}
	if at, e := data.Well(list, 0); at != -1 || e != api.OK {
		t.Errorf("P1102: nothing is to be computed: %d, %v", at, e)
	}
	if at, e := data.Well(append(prelude.Decls(), list...), much); at != 4 || e != api.ErrTwice {
		t.Errorf("P1102: twice: %d, %v", at, e)
	}
	if at, e := data.Well([]api.Decl{list[1], list[2], list[3], list[0]}, much); at != 2 || e != api.ErrConst {
		t.Errorf("P1102: uip ahead of Eq: %d, %v", at, e)
	}
}

func TestP1102Sig(t *testing.T) {
	s := prelude.Sig()
	if !reflect.DeepEqual(s.List(), written()) {
		t.Errorf("P1102: %+v", s.List())
	}
	means := map[string]struct{ place, kind int }{
		"Eq": {0, 3}, "refl": {0, 4}, "Eq.elim": {0, 5}, "Top": {1, 3}, "tt": {1, 4}, "Top.elim": {1, 5}, "Bot": {2, 3}, "Bot.elim": {2, 5}, "uip": {3, 1},
	}
	for name, want := range means {
		if d, kind := s.Get(name); kind != want.kind || !reflect.DeepEqual(d, written()[want.place]) {
			t.Errorf("P1102: %s: %d of %s", name, kind, d.Name)
		}
	}
	for _, name := range []string{"", "Nat", "top", "bot", "Set", "eq", "uip.elim", "refl.elim"} {
		if d, kind := s.Get(name); kind != 0 {
			t.Errorf("P1102: %s: %d of %s", name, kind, d.Name)
		}
	}
}

// The same signature comes of the declarations by data.Add alone.
func TestP1102ByAdd(t *testing.T) {
	s := sig.New()
	for _, d := range prelude.Decls() {
		if e := data.Add(s, d, much); e != api.OK {
			t.Errorf("P1102: %s: %v", d.Name, e)
		}
	}
	if !reflect.DeepEqual(s.List(), prelude.Sig().List()) {
		t.Error("P1102: another signature")
	}
}

func axiom(name string) api.Decl { return api.Decl{Kind: api.DAxiom, Name: name, Type: set(0)} }

// Each signature is new: what is put into one is in no other.
func TestP1102New(t *testing.T) {
	a, b := prelude.Sig(), prelude.Sig()
	if e := a.Put(axiom("Nat")); e != api.OK {
		t.Fatalf("P1102: %v", e)
	}
	for _, s := range []*sig.Sig{b, prelude.Sig()} {
		if _, kind := s.Get("Nat"); kind != 0 || len(s.List()) != 4 {
			t.Errorf("P1102: not new: %d, %d", kind, len(s.List()))
		}
	}
	for _, name := range []string{"Eq", "refl", "Eq.elim", "Top", "tt", "Top.elim", "Bot", "Bot.elim", "uip"} {
		if e := data.Add(b, axiom(name), much); e != api.ErrTwice {
			t.Errorf("P1102: %s again: %v", name, e)
		}
	}
}

// Calls that run at the same time do not meet.
func TestP1102SideBySide(t *testing.T) {
	done := make(chan bool)
	for range 20 {
		go func() {
			s := prelude.Sig()
			s.Put(axiom("Nat"))
			list := prelude.Decls()
			list[0].Ctors[0].Type.Kids[0] = set(1)
			done <- len(s.List()) == 5 && reflect.DeepEqual(prelude.Decls(), written())
		}()
	}
	for range 20 {
		if !<-done {
			t.Error("P1102: another answer")
		}
	}
}

// proof is a definition over one level parameter.
func proof(name string, ty, value api.Term) api.Decl {
	return api.Decl{Kind: api.DDef, Name: name, Levels: 1, Type: ty, Value: value}
}

// over is t behind (A : Set l) (a b : A) (p : Eq A a b).
func over(form int, t api.Term) api.Term {
	v := variable
	return of(form, sort(l()), of(form, v(0), of(form, v(1), of(form, eq(v(2), v(1), v(0)), t))))
}

// What the prelude is for: identities turned round, all from Bot, Top's one value, and identities of identities.
func TestP1102Proofs(t *testing.T) {
	v := variable
	refl := app(at("refl", l()), v(3), v(2))
	motive := lam(v(3), lam(eq(v(4), v(3), v(0)), eq(v(5), v(1), v(4))))
	sym := app(at("Eq.elim", l(), l()), v(3), v(2), motive, refl, v(1), v(0))
	absurd := lam(sort(l()), lam(at("Bot"), app(at("Bot.elim", l()), lam(at("Bot"), v(2)), v(0))))
	one := lam(at("Top"), app(at("Top.elim", api.Level{}), lam(at("Top"), app(at("Eq", api.Level{}), at("Top"), at("tt"), v(0))), app(at("refl", api.Level{}), at("Top"), at("tt")), v(0)))
	same := eq(v(3), v(2), v(1))
	twice := app(at("sym", l()), v(3), v(1), v(2), app(at("sym", l()), v(3), v(2), v(1), v(0)))
	s := prelude.Sig()
	for _, d := range []api.Decl{
		proof("sym", over(api.TPi, eq(v(3), v(1), v(2))), over(api.TLam, sym)),
		proof("absurd", pi(sort(l()), pi(at("Bot"), v(1))), absurd),
		proof("one", pi(at("Top"), app(at("Eq", api.Level{}), at("Top"), at("tt"), v(0))), one),
		proof("back", over(api.TPi, eq(same, twice, v(0))), over(api.TLam, app(at("uip", l()), v(3), v(2), v(1), twice, v(0)))),
	} {
		if e := data.Add(s, d, much); e != api.OK {
			t.Errorf("P1102: %s: %v", d.Name, e)
		}
	}
	wrong := proof("wrong", over(api.TPi, eq(v(3), v(1), v(2))), over(api.TLam, v(0)))
	if e := data.Add(s, wrong, much); e != api.ErrType {
		t.Errorf("P1102: %v", e)
	}
}

// The kernel knows each name at its levels, and at no others.
func TestP1102Consts(t *testing.T) {
	s := prelude.Sig()
	for name, levels := range map[string]int{"Eq": 1, "refl": 1, "Eq.elim": 2, "Top": 0, "tt": 0, "Top.elim": 1, "Bot": 0, "Bot.elim": 1, "uip": 1} {
		for n := range 4 {
			_, e := kernel.Const(s, name, make([]api.Level, n))
			if (e == api.OK) != (n == levels) {
				t.Errorf("P1102: %s at %d levels: %v", name, n, e)
			}
		}
	}
	ty, e := elim.Type(prelude.Decls()[2])
	want := pi(pi(at("Bot"), sort(l())), pi(at("Bot"), app(variable(1), variable(0))))
	if e != api.OK || !term.Same(ty, want) {
		t.Errorf("P1102: Bot.elim: %v, %+v", e, ty)
	}
}
