package sig_test

import (
	"fmt"
	"math"
	"math/rand"
	"reflect"
	"strings"
	"testing"

	"telamon/api"
	"telamon/bytes"
	"telamon/sig"
)

func variable(n int) api.Term { return api.Term{Form: api.TVar, N: n} }

func sort(l ...api.Level) api.Term { return api.Term{Form: api.TSort, Levels: l} }

func constant(name string, l ...api.Level) api.Term {
	return api.Term{Form: api.TConst, Name: name, Levels: l}
}

func of(form int, kids ...api.Term) api.Term { return api.Term{Form: form, Kids: kids} }

func param(n, add int) api.Level { return api.Level{Vars: []api.LVar{{Var: n, Add: add}}} }

func set() api.Term { return sort(api.Level{}) }

// high is a term of that height, with t at its bottom.
func high(n int, t api.Term) api.Term {
	for range n - 1 {
		t = of(api.TFst, t)
	}
	return t
}

// wide is a term of that many parts (an odd number), with t in each leaf.
func wide(parts int, t api.Term) api.Term {
	if parts == 1 {
		return t
	}
	left := (parts-1)/2 | 1
	return of(api.TApp, wide(left, t), wide(parts-1-left, t))
}

func axiom(name string) api.Decl { return api.Decl{Kind: api.DAxiom, Name: name, Type: set()} }

func def(name string) api.Decl {
	return api.Decl{Kind: api.DDef, Name: name, Type: sort(api.Level{N: 1}), Value: set()}
}

// family is one with constructors of these names.
func family(name string, ctors ...string) api.Decl {
	d := api.Decl{Kind: api.DData, Name: name, Type: set()}
	for _, c := range ctors {
		d.Ctors = append(d.Ctors, api.Ctor{Name: c, Type: constant(name)})
	}
	return d
}

func nat() api.Decl {
	d := family("Nat", "zero", "suc")
	d.Ctors[1].Type = of(api.TPi, constant("Nat"), constant("Nat"))
	return d
}

// vec has a bit of everything that a declaration may have.
func vec() api.Decl {
	s := sort(param(0, 0))
	v := func(a, n api.Term) api.Term {
		return of(api.TApp, of(api.TApp, constant("Vec", param(0, 0)), a), n)
	}
	nilType := of(api.TPi, s, v(variable(0), constant("zero")))
	nilType.Hid = true
	pair := of(api.TPair, of(api.TSigma, variable(1), variable(2)), of(api.TSnd, variable(0)), of(api.TFst, variable(0)))
	cons := of(api.TPi, s, of(api.TPi, constant("Nat"), of(api.TPi, pair, v(variable(2), of(api.TApp, constant("suc"), variable(1))))))
	return api.Decl{Kind: api.DData, Name: "Vec", Levels: 1, Type: of(api.TPi, s, of(api.TPi, constant("Nat"), s)), Params: 1,
		Ctors: []api.Ctor{{Name: "nil", Type: nilType}, {Name: "cons", Type: cons}}}
}

func identity() api.Decl {
	return api.Decl{Kind: api.DDef, Name: "id", Levels: api.MaxParams, Type: of(api.TPi, set(), of(api.TPi, variable(0), variable(1))), Value: of(api.TLam, set(), of(api.TLam, variable(0), variable(0)))}
}

// some answers declarations of all Kinds, with no name twice.
func some() []api.Decl {
	return []api.Decl{nat(), vec(), identity(), axiom("K"), family("Empty"), def("one"), axiom("Empty.elim.elim"), family("\xff\x00", "é", " ")}
}

// filled answers a signature in which all of l were put.
func filled(t *testing.T, l ...api.Decl) *sig.Sig {
	t.Helper()
	s := sig.New()
	for _, d := range l {
		if e := s.Put(d); e != api.OK {
			t.Fatalf("Put of %s: %v", d.Name, e)
		}
	}
	return s
}

// holds fails, if s is not just the declarations of l, in order, or tells other than these of a name.
func holds(t *testing.T, what any, s *sig.Sig, l []api.Decl) {
	t.Helper()
	got := s.List()
	if len(got) != len(l) {
		t.Fatalf("%v: %d declarations, not %d", what, len(got), len(l))
	}
	for i, d := range l {
		if !reflect.DeepEqual(got[i], d) {
			t.Errorf("%v: the declaration %d is %+v, not %+v", what, i, got[i], d)
		}
	}
	for name, m := range meanings(l) {
		if d, kind := s.Get(name); kind != m.kind || !reflect.DeepEqual(d, l[m.place]) {
			t.Errorf("%v: %q is %d, %+v, not %d", what, name, kind, d, m.kind)
		}
	}
	for _, name := range []string{"", "absent", "elim", ".elim", "Nat.eli", "Nat.elim.elim", "nat", "K.elim", "zero.elim", "Nat\x00"} {
		if _, there := meanings(l)[name]; !there {
			absent(t, s, name)
		}
	}
}

func absent(t *testing.T, s *sig.Sig, name string) {
	t.Helper()
	if d, kind := s.Get(name); kind != 0 || !reflect.DeepEqual(d, api.Decl{}) {
		t.Errorf("%q means %d, %+v", name, kind, d)
	}
}

type meaning struct{ place, kind int }

// meanings is a second way to tell what names mean, by the chapter's words.
func meanings(l []api.Decl) map[string]meaning {
	out := map[string]meaning{}
	for i, d := range l {
		switch d.Kind {
		case api.DAxiom:
			out[d.Name] = meaning{i, 1}
		case api.DDef:
			out[d.Name] = meaning{i, 2}
		case api.DData:
			out[d.Name] = meaning{i, 3}
			out[d.Name+".elim"] = meaning{i, 5}
			for k, c := range d.Ctors {
				out[c.Name] = meaning{i, 4 + 2*k}
			}
		}
	}
	return out
}

// refused fails, if Put of d into s does not tell that error, or changes what s holds; if Would tells otherwise.
func refused(t *testing.T, what any, s *sig.Sig, d api.Decl, want api.Errno) {
	t.Helper()
	before := s.List()
	if e := s.Would(d); e != want && s != nil {
		t.Errorf("%v: Would: %v, not %v", what, e, want)
	}
	if e := s.Put(d); e != want {
		t.Errorf("%v: %v, not %v", what, e, want)
	}
	holds(t, what, s, before)
}

// changed answers d with a change.
func changed(d api.Decl, change func(*api.Decl)) api.Decl {
	change(&d)
	return d
}

// badForms answers declarations that bytes.Decls does not take, each with what it tells of it.
func badForms() map[string]struct {
	d api.Decl
	e api.Errno
} {
	type row = struct {
		d api.Decl
		e api.Errno
	}
	long := strings.Repeat("x", api.MaxName+1)
	ring := of(api.TFst, set())
	ring.Kids[0] = ring
	many := make([]string, api.MaxCtors+1)
	for i := range many {
		many[i] = fmt.Sprint("c", i)
	}
	heavy := constant("c", make([]api.Level, 600000)...)
	return map[string]row{
		"no Kind":              {api.Decl{}, api.ErrForm},
		"Kind 4":               {changed(axiom("a"), func(d *api.Decl) { d.Kind = 4 }), api.ErrForm},
		"Kind -1":              {changed(axiom("a"), func(d *api.Decl) { d.Kind = -1 }), api.ErrForm},
		"Kind far off":         {changed(axiom("a"), func(d *api.Decl) { d.Kind = math.MinInt }), api.ErrForm},
		"no name":              {axiom(""), api.ErrForm},
		"a long name":          {def(long), api.ErrForm},
		"Levels -1":            {changed(axiom("a"), func(d *api.Decl) { d.Levels = -1 }), api.ErrLevels},
		"Levels 9":             {changed(nat(), func(d *api.Decl) { d.Levels = api.MaxParams + 1 }), api.ErrLevels},
		"no type":              {changed(axiom("a"), func(d *api.Decl) { d.Type = api.Term{} }), api.ErrForm},
		"a type without end":   {changed(axiom("a"), func(d *api.Decl) { d.Type = ring }), api.ErrLong},
		"a type too high":      {changed(nat(), func(d *api.Decl) { d.Type = high(api.MaxHigh+1, set()) }), api.ErrLong},
		"no value":             {changed(def("f"), func(d *api.Decl) { d.Value = api.Term{} }), api.ErrForm},
		"a value too long":     {changed(def("f"), func(d *api.Decl) { d.Value = wide(api.MaxTerm+1, set()) }), api.ErrLong},
		"Params -1":            {changed(nat(), func(d *api.Decl) { d.Params = -1 }), api.ErrLong},
		"Params 61":            {changed(nat(), func(d *api.Decl) { d.Params = api.MaxTele + 1 }), api.ErrLong},
		"41 constructors":      {family("D", many...), api.ErrLong},
		"no constructor name":  {family("D", "a", ""), api.ErrForm},
		"a long constructor":   {family("D", "a", long), api.ErrForm},
		"no constructor type":  {changed(family("D", "a"), func(d *api.Decl) { d.Ctors[0].Type = api.Term{} }), api.ErrForm},
		"a constructor's ring": {changed(family("D", "a"), func(d *api.Decl) { d.Ctors[0].Type = ring }), api.ErrLong},
		"too many bytes":       {changed(axiom("a"), func(d *api.Decl) { d.Type = heavy }), api.ErrLong},
	}
}

func TestP501BytesError(t *testing.T) {
	s := filled(t, some()...)
	for what, x := range badForms() {
		if _, e := bytes.Decls([]api.Decl{x.d}); e != x.e {
			t.Fatalf("%s: bytes.Decls tells %v, not %v", what, e, x.e)
		}
		if e := s.Put(x.d); e != x.e {
			t.Errorf("%s: %v, not %v", what, e, x.e)
		}
	}
	holds(t, "behind what is refused", s, some())
}

func TestP501JustRight(t *testing.T) {
	long := strings.Repeat("x", api.MaxName)
	var names []string
	for i := range api.MaxCtors {
		names = append(names, fmt.Sprint("c", i))
	}
	l := []api.Decl{
		family(long, long[1:], "y"+long[1:]),
		changed(family("D", names...), func(d *api.Decl) { d.Params, d.Levels = api.MaxTele, api.MaxParams }),
		changed(axiom("high"), func(d *api.Decl) { d.Type = high(api.MaxHigh, set()) }),
		changed(def("wide"), func(d *api.Decl) { d.Value = wide(api.MaxTerm-1, set()) }),
		axiom("D.elim.elim"), axiom("c0.elim"), axiom("wide.elim"), axiom(".elim"), axiom("elim"), family("c1.elim"),
	}
	s := filled(t, l...)
	holds(t, "the edges", s, l)
	if _, kind := s.Get(long + ".elim"); kind != 5 {
		t.Errorf("an eliminator's name may be longer than others: %d", kind)
	}
	if _, kind := s.Get("c39"); kind != 82 {
		t.Errorf("the last constructor: %d", kind)
	}
}

// openTerms answers terms with a free variable; closedTerms such that have none.
func openTerms() []api.Term {
	return []api.Term{
		variable(0), variable(1 << 30), of(api.TLam, set(), variable(1)), of(api.TPi, variable(0), variable(0)), of(api.TSigma, set(), of(api.TPi, set(), variable(2))),
		of(api.TApp, of(api.TLam, set(), variable(0)), variable(0)), of(api.TApp, set(), of(api.TFst, variable(3))),
		of(api.TPair, of(api.TSigma, set(), set()), set(), variable(0)), high(api.MaxHigh, variable(0)),
	}
}

func closedTerms() []api.Term {
	return []api.Term{
		set(), of(api.TLam, set(), variable(0)), of(api.TPi, set(), of(api.TPi, variable(0), variable(1))), of(api.TSigma, set(), of(api.TPi, set(), of(api.TApp, variable(1), variable(0)))),
		{Form: api.TMeta, N: 7}, {Form: api.TSort, N: 3, Levels: []api.Level{{}}}, sort(param(api.MaxLevel, 1)), constant("nowhere", param(5, 0), api.Level{N: 2}), of(api.TApp, set(), set()),
	}
}

func TestP501FreeVariables(t *testing.T) {
	places := map[string]func(*api.Decl, api.Term){
		"Type of an axiom":     func(d *api.Decl, x api.Term) { *d = axiom("new"); d.Type = x },
		"Type of a definition": func(d *api.Decl, x api.Term) { *d = def("new"); d.Type = x },
		"Value":                func(d *api.Decl, x api.Term) { *d = def("new"); d.Value = x },
		"Type of a family":     func(d *api.Decl, x api.Term) { *d = family("new", "a", "b"); d.Type, d.Params = x, 2 },
		"first constructor":    func(d *api.Decl, x api.Term) { *d = family("new", "a", "b"); d.Ctors[0].Type, d.Params = x, 2 },
		"last constructor":     func(d *api.Decl, x api.Term) { *d = family("new", "a", "b"); d.Ctors[1].Type = x },
	}
	for what, place := range places {
		s := filled(t, nat())
		for i, x := range openTerms() {
			var d api.Decl
			place(&d, x)
			refused(t, fmt.Sprint(what, i), s, d, api.ErrVar)
		}
		for i, x := range closedTerms() {
			var d api.Decl
			place(&d, x)
			if e := filled(t, nat()).Put(d); e != api.OK {
				t.Errorf("%s: closed %d: %v", what, i, e)
			}
		}
	}
}

// full answers a signature of n declarations, families among them.
func full(t *testing.T, n int) *sig.Sig {
	s := sig.New()
	for i := range n {
		d := axiom(fmt.Sprint("x", i))
		if i%3 == 0 {
			d = family(d.Name, d.Name+"a", d.Name+"b")
		}
		if e := s.Put(d); e != api.OK {
			t.Fatalf("%d: %v", i, e)
		}
	}
	return s
}

func TestP501Room(t *testing.T) {
	s := full(t, api.MaxDecls-1)
	if e := s.Put(axiom("x0")); e != api.ErrTwice {
		t.Errorf("one of 499 again: %v", e)
	}
	o := s.Copy()
	if e := s.Put(family("last", "k")); e != api.OK {
		t.Fatalf("the 500th: %v", e)
	}
	for _, d := range []api.Decl{axiom("more"), def("more"), family("more"), axiom("x0"), axiom("k")} {
		refused(t, "the 501st, "+d.Name, s, d, api.ErrLong)
	}
	if e := o.Put(axiom("k")); e != api.OK {
		t.Errorf("the copy has room: %v", e)
	}
	if e := o.Put(axiom("more")); e != api.ErrLong {
		t.Errorf("the copy is full: %v", e)
	}
}

func TestP501Order(t *testing.T) {
	s := full(t, api.MaxDecls)
	free := changed(axiom("x0"), func(d *api.Decl) { d.Type = variable(0) })
	refused(t, "a free variable is ahead of the room and of the name", s, free, api.ErrVar)
	refused(t, "the room is ahead of the name", s, axiom("x0"), api.ErrLong)
	refused(t, "and of two names in one", s, family("D", "D"), api.ErrLong)
	wrong := changed(def("x0"), func(d *api.Decl) { d.Type, d.Value = variable(0), api.Term{} })
	refused(t, "a form is ahead of all, be it the later one", s, wrong, api.ErrForm)
	last := changed(family("x0", "x0", ""), func(d *api.Decl) { d.Type = variable(0) })
	refused(t, "the last constructor's, too", s, last, api.ErrForm)
	s = filled(t, nat())
	refused(t, "a free variable is ahead of the name", s, changed(family("D", "Nat", "D"), func(d *api.Decl) { d.Ctors[1].Type = variable(0) }), api.ErrVar)
}

func TestP501NameThere(t *testing.T) {
	l := []api.Decl{axiom("a"), def("d"), family("F", "k0", "k1", "k2"), family("Empty"), axiom("G.elim"), family("H.elim")}
	s := filled(t, l...)
	for name := range meanings(l) {
		for _, d := range []api.Decl{axiom(name), def(name), family(name), family("new", name), family("new", "x", name), family("new", "x", name, "y")} {
			refused(t, fmt.Sprintf("%q in %+v", name, d), s, d, api.ErrTwice)
		}
	}
	for _, name := range []string{"G", "H"} {
		refused(t, name+".elim is there", s, family(name), api.ErrTwice)
		refused(t, name+".elim is there", s, family(name, "new"), api.ErrTwice)
	}
	for _, d := range []api.Decl{axiom("G"), def("H"), axiom("new"), axiom("x"), axiom("y"), axiom("new.elim"), axiom("k0.elim"), axiom("a.elim"), family("A"), axiom("f"), axiom("F "), axiom("k3")} {
		if e := s.Put(d); e != api.OK {
			t.Errorf("%s: %v", d.Name, e)
		}
	}
	refused(t, "a.elim is an axiom", filled(t, axiom("a.elim")), family("a"), api.ErrTwice)
	refused(t, "a.elim is a constructor", filled(t, family("D", "a.elim")), family("a"), api.ErrTwice)
}

func TestP501NamesOfOne(t *testing.T) {
	s := filled(t, nat())
	for i, d := range []api.Decl{
		family("D", "D"), family("D", "a", "D"), family("D", "D.elim"), family("D", "a", "b", "D.elim"),
		family("D", "a", "a"), family("D", "a", "b", "a"), family("D", "a", "b", "b"), family("D.elim", "D.elim"), family("D.elim", "D.elim.elim"),
	} {
		refused(t, i, s, d, api.ErrTwice)
	}
	if e := s.Put(family("D", "d", "D.elim.elim", "D ", ".elim")); e != api.OK {
		t.Errorf("names that are near: %v", e)
	}
}

// junk answers d with all fields that its Kind does not have filled, with x for their terms.
func junk(d api.Decl, x api.Term) api.Decl {
	if d.Kind != api.DDef {
		d.Value = x
	}
	if d.Kind != api.DData {
		d.Params = 3
		d.Ctors = []api.Ctor{{}, {Name: d.Name, Type: variable(0)}, {Name: "ghost", Type: x}, {Name: "Nat"}}
	}
	return d
}

func TestP503OtherFields(t *testing.T) {
	ring := of(api.TFst, set())
	ring.Kids[0] = ring
	for i, x := range []api.Term{set(), variable(0), {}, ring, wide(api.MaxTerm+1, set())} {
		s := sig.New()
		var l []api.Decl
		for _, d := range append(some(), axiom("a"), def("f")) {
			l = append(l, d)
			if e := s.Put(junk(d, x)); e != api.OK {
				t.Errorf("%d: %s: %v", i, d.Name, e)
			}
		}
		holds(t, "without the other fields", s, l)
		absent(t, s, "ghost")
		free := changed(def("g"), func(d *api.Decl) { d.Value = variable(0) })
		refused(t, "a definition has a value", s, junk(free, x), api.ErrVar)
		if e := s.Put(axiom("ghost")); e != api.OK {
			t.Errorf("a name that only seems to be there: %v", e)
		}
	}
}

func TestP503FieldsOfTerms(t *testing.T) {
	full := func(x api.Term) api.Term {
		y := api.Term{N: 5, Hid: true, Name: "n", Levels: []api.Level{{N: 3}}}
		y.Form, y.Kids = x.Form, x.Kids
		switch x.Form {
		case api.TVar:
			y.N = x.N
		case api.TSort:
			y.Levels = x.Levels
		case api.TConst:
			y.Name, y.Levels = x.Name, x.Levels
		case api.TPi, api.TLam, api.TApp:
			y.Hid = x.Hid
		}
		return y
	}
	for _, d := range some() {
		s := sig.New()
		if e := s.Put(mapped(d, full)); e != api.OK {
			t.Fatalf("%s: %v", d.Name, e)
		}
		holds(t, d.Name, s, []api.Decl{d})
	}
}

// mapped answers d, as new memory, with each part of its terms as change tells it.
func mapped(d api.Decl, change func(api.Term) api.Term) api.Decl {
	var each func(api.Term) api.Term
	each = func(x api.Term) api.Term {
		x.Kids = append([]api.Term(nil), x.Kids...)
		for i, k := range x.Kids {
			x.Kids[i] = each(k)
		}
		x.Levels = append([]api.Level(nil), x.Levels...)
		for i, l := range x.Levels {
			x.Levels[i].Vars = append([]api.LVar(nil), l.Vars...)
		}
		return change(x)
	}
	d.Type = each(d.Type)
	if d.Kind == api.DDef {
		d.Value = each(d.Value)
	}
	d.Ctors = append([]api.Ctor(nil), d.Ctors...)
	for i, c := range d.Ctors {
		d.Ctors[i].Type = each(c.Type)
	}
	return d
}

// spoil writes over each list of d, as far as it is reached.
func spoil(d api.Decl) {
	var each func(api.Term)
	each = func(x api.Term) {
		for i, l := range x.Levels {
			for j := range l.Vars {
				l.Vars[j] = api.LVar{Var: -9, Add: -9}
			}
			x.Levels[i] = api.Level{N: -9}
		}
		for i, k := range x.Kids {
			each(k)
			x.Kids[i] = api.Term{Form: -9}
		}
	}
	each(d.Type)
	each(d.Value)
	for i, c := range d.Ctors {
		each(c.Type)
		d.Ctors[i] = api.Ctor{Name: "spoilt"}
	}
}

func TestP502ListAndGet(t *testing.T) {
	s := sig.New()
	holds(t, "nothing", s, nil)
	for i, d := range some() {
		if e := s.Put(d); e != api.OK {
			t.Fatalf("%s: %v", d.Name, e)
		}
		holds(t, i, s, some()[:i+1])
	}
	if d, kind := s.Get("suc"); kind != 6 || d.Name != "Nat" {
		t.Errorf("the chapter's example: %s, %d", d.Name, kind)
	}
	refused(t, "the chapter's example", s, axiom("zero"), api.ErrTwice)
}

func TestP502Kinds(t *testing.T) {
	none, axiom, def, family, ctor, elim := sig.Kinds()
	if got := [6]int{none, axiom, def, family, ctor, elim}; got != [6]int{0, 1, 2, 3, 4, 5} {
		t.Errorf("%v", got)
	}
}

func TestP503Copy(t *testing.T) {
	for n := range len(some()) + 1 {
		s := filled(t, some()[:n]...)
		o := s.Copy()
		holds(t, "the copy", o, some()[:n])
		if e := o.Put(family("X", "x")); e != api.OK {
			t.Fatalf("into the copy: %v", e)
		}
		holds(t, "the first one", s, some()[:n])
		absent(t, s, "X")
		absent(t, s, "x")
		if e := s.Put(def("x")); e != api.OK {
			t.Errorf("into the first one: %v", e)
		}
		if e := s.Put(axiom("y")); e != api.OK {
			t.Errorf("into the first one: %v", e)
		}
		holds(t, "the copy again", o, append(some()[:n:n], family("X", "x")))
		holds(t, "the first one again", s, append(some()[:n:n], def("x"), axiom("y")))
		refused(t, "the copy knows the names", o, axiom("x"), api.ErrTwice)
		if n > 0 {
			refused(t, "those of the first one, too", o, axiom(some()[0].Name), api.ErrTwice)
		}
	}
}

func TestP503CopiesOfOne(t *testing.T) {
	s := filled(t, some()...)
	a, b := s.Copy(), s.Copy()
	for i := range 50 {
		if e := a.Put(axiom(fmt.Sprint("a", i))); e != api.OK {
			t.Fatal(e)
		}
		if e := b.Put(def(fmt.Sprint("b", i))); e != api.OK {
			t.Fatal(e)
		}
	}
	holds(t, "the first one", s, some())
	if x, y := a.List(), b.List(); len(x) != len(y) || x[len(x)-1].Name != "a49" || y[len(y)-1].Name != "b49" || x[len(some())].Name != "a0" {
		t.Error("copies share a list")
	}
}

func TestP503NewMemory(t *testing.T) {
	s := sig.New()
	for i, d := range some() {
		before := mapped(d, func(x api.Term) api.Term { return x })
		if e := s.Put(d); e != api.OK {
			t.Fatal(e)
		}
		if !reflect.DeepEqual(d, some()[i]) || !reflect.DeepEqual(before, d) {
			t.Errorf("%s was changed", d.Name)
		}
		spoil(d)
	}
	holds(t, "what was handed in is not kept", s, some())
	o := s.Copy()
	l := s.List()
	for i, d := range l {
		spoil(d)
		l[i] = api.Decl{}
	}
	_ = append(l[:0], axiom("other"), axiom("other"))
	for name := range meanings(some()) {
		d, _ := s.Get(name)
		spoil(d)
		holds(t, "what Get answers is new", s, some())
	}
	holds(t, "what List answers is new", s, some())
	holds(t, "in the copy, too", o, some())
	for _, d := range o.List() {
		spoil(d)
	}
	holds(t, "what the copy answers is new", s, some())
}

// Parts of one answer share no list, even where those of what was handed in do.
func TestP503ListsOfTheirOwn(t *testing.T) {
	vars := []api.LVar{{Var: 0, Add: 1}}
	x := sort(api.Level{Vars: vars})
	shared := of(api.TPi, x, x)
	d := api.Decl{Kind: api.DData, Name: "D", Type: shared, Ctors: []api.Ctor{{Name: "a", Type: shared}, {Name: "b", Type: shared}}}
	s := filled(t, d, api.Decl{Kind: api.DDef, Name: "f", Type: shared, Value: shared})
	l := s.List()
	spoil(api.Decl{Type: l[0].Type})
	spoil(api.Decl{Type: l[0].Ctors[0].Type})
	spoil(api.Decl{Type: l[1].Value})
	l[0].Ctors[1].Type.Kids[0].Levels[0].Vars[0].Add = 7
	want := of(api.TPi, sort(param(0, 1)), sort(param(0, 1)))
	if !reflect.DeepEqual(l[1].Type, want) || !reflect.DeepEqual(l[0].Ctors[1].Type.Kids[1], want.Kids[1]) {
		t.Errorf("%+v", l)
	}
}

func TestP503SpareRoom(t *testing.T) {
	d := nat()
	room := make([]api.Ctor, 2, 8)
	copy(room, d.Ctors)
	d.Ctors = room
	if e := sig.New().Put(d); e != api.OK {
		t.Fatal(e)
	}
	if !reflect.DeepEqual(room[:8], append(nat().Ctors, make([]api.Ctor, 6)...)) {
		t.Errorf("%+v", room[:8])
	}
}

// Many declarations at random, held against the meanings by the chapter's words.
func TestP501AtRandom(t *testing.T) {
	r := rand.New(rand.NewSource(5))
	names := []string{"a", "b", "c", "d", "e", "f", "a.elim", "b.elim", "c.elim", "a.elim.elim"}
	name := func() string { return names[r.Intn(len(names))] }
	for range 2000 {
		s := sig.New()
		var l []api.Decl
		for range 8 {
			d := [3]api.Decl{axiom(name()), def(name()), family(name())}[r.Intn(3)]
			if d.Kind == api.DData {
				d = family(d.Name, [3][]string{nil, {name()}, {name(), name()}}[r.Intn(3)]...)
			}
			want := api.OK
			if more := append(l[:len(l):len(l)], d); len(meanings(more)) < len(meanings(l))+declares(d) {
				want = api.ErrTwice
			} else {
				l = more
			}
			if e := s.Would(d); e != want {
				t.Fatalf("%+v behind %+v: Would: %v, not %v", d, l, e, want)
			}
			if e := s.Put(d); e != want {
				t.Fatalf("%+v behind %+v: %v, not %v", d, l, e, want)
			}
		}
		holds(t, "at random", s, l)
	}
}

// declares answers how many names d declares.
func declares(d api.Decl) int {
	if d.Kind == api.DData {
		return 2 + len(d.Ctors)
	}
	return 1
}

// A signature that was not made by New is an empty one; in a nil one nothing can stand.
func TestNotMadeByNew(t *testing.T) {
	var s sig.Sig
	holds(t, "a zero one", s.Copy(), nil)
	holds(t, "a zero one", &s, nil)
	for i, d := range some() {
		if e := s.Put(d); e != api.OK {
			t.Errorf("%d: %v", i, e)
		}
	}
	holds(t, "a zero one, filled", &s, some())
	var none *sig.Sig
	refused(t, "a nil one", none, nat(), api.ErrArg)
	refused(t, "a nil one", none, axiom(""), api.ErrForm)
	refused(t, "a nil one", none, family("D", "D"), api.ErrTwice)
	if e := none.Would(nat()); e != api.OK {
		t.Errorf("a nil one is read as an empty one: %v", e)
	}
	o := none.Copy()
	if e := o.Put(nat()); e != api.OK {
		t.Errorf("a nil one's copy: %v", e)
	}
	holds(t, "a nil one's copy", o, []api.Decl{nat()})
}
