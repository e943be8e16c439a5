package bytes_test

import (
	"bytes"
	"encoding/binary"
	"fmt"
	"math"
	"math/rand"
	"reflect"
	"strings"
	"testing"

	"telamon/api"
	code "telamon/bytes"
	"telamon/term"
)

func variable(n int) api.Term { return api.Term{Form: api.TVar, N: n} }

func meta(n int) api.Term { return api.Term{Form: api.TMeta, N: n} }

func sort(l ...api.Level) api.Term { return api.Term{Form: api.TSort, Levels: l} }

func constant(name string, l ...api.Level) api.Term {
	return api.Term{Form: api.TConst, Name: name, Levels: l}
}

func of(form int, kids ...api.Term) api.Term { return api.Term{Form: form, Kids: kids} }

func hidden(t api.Term) api.Term {
	t.Hid = true
	return t
}

// lev is the level of n and of variables, each with its Add behind it.
func lev(n int, l ...int) api.Level {
	x := api.Level{N: n}
	for i := 0; i+1 < len(l); i += 2 {
		x.Vars = append(x.Vars, api.LVar{Var: l[i], Add: l[i+1]})
	}
	return x
}

func many(n int) api.Level {
	var l api.Level
	for i := range n {
		l.Vars = append(l.Vars, api.LVar{Var: i})
	}
	return l
}

func set() api.Term { return sort(lev(0)) }

// high is a term of that height, with t at its bottom.
func high(n int, t api.Term) api.Term {
	for range n - 1 {
		t = of(api.TFst, t)
	}
	return t
}

// wide is a term of that many parts (an odd number), with t in each leaf.
func wide(parts int, t api.Term) api.Term {
	if parts == 1 {
		return t
	}
	left := (parts-1)/2 | 1
	return of(api.TApp, wide(left, t), wide(parts-1-left, t))
}

// heavy is a term whose bytes are n (of some hundred and more).
func heavy(n int) api.Term {
	t := constant("c", make([]api.Level, n/2-10)...)
	for i := range n - len(written(t)) {
		t.Levels[i].N = 200 // a byte more
	}
	return t
}

func axiom(name string, t api.Term) api.Decl {
	return api.Decl{Kind: api.DAxiom, Name: name, Type: t}
}

func def(name string, t, value api.Term) api.Decl {
	return api.Decl{Kind: api.DDef, Name: name, Type: t, Value: value}
}

func nat() api.Decl {
	n := constant("Nat")
	return api.Decl{Kind: api.DData, Name: "Nat", Type: set(), Ctors: []api.Ctor{{Name: "zero", Type: n}, {Name: "suc", Type: of(api.TPi, n, n)}}}
}

func list() api.Decl {
	s := sort(lev(0, 0, 0))
	l := func(x api.Term) api.Term { return of(api.TApp, constant("List", lev(0, 0, 0)), x) }
	nilType := hidden(of(api.TPi, s, l(variable(0))))
	cons := hidden(of(api.TPi, s, of(api.TPi, variable(0), of(api.TPi, l(variable(1)), l(variable(2))))))
	return api.Decl{Kind: api.DData, Name: "List", Levels: 1, Type: of(api.TPi, s, s), Params: 1, Ctors: []api.Ctor{{Name: "nil", Type: nilType}, {Name: "cons", Type: cons}}}
}

func decls() []api.Decl {
	wideDef := def("w", wide(301, meta(129)), high(api.MaxHigh, variable(1<<30)))
	wideDef.Levels = api.MaxParams
	return []api.Decl{nat(), list(), axiom("\xff\x00", sample()), wideDef, {Kind: api.DData, Name: "Empty", Type: set(), Params: api.MaxTele}}
}

// The second way to write, word by word as the document has the form.

func num(n int) []byte { return binary.AppendUvarint(nil, uint64(n)) }

func text(s string) []byte { return append(num(len(s)), s...) }

func joined(l ...[]byte) []byte { return bytes.Join(l, nil) }

func writtenLevel(l api.Level) []byte {
	b := joined(num(l.N), num(len(l.Vars)))
	for _, v := range l.Vars {
		b = joined(b, num(v.Var), num(v.Add))
	}
	return b
}

func written(t api.Term) []byte {
	b := num(t.Form)
	switch t.Form {
	case api.TVar, api.TMeta:
		return append(b, num(t.N)...)
	case api.TSort:
		return append(b, writtenLevel(t.Levels[0])...)
	case api.TConst:
		b = joined(b, text(t.Name), num(len(t.Levels)))
		for _, l := range t.Levels {
			b = append(b, writtenLevel(l)...)
		}
		return b
	case api.TPi, api.TLam, api.TApp:
		b = append(b, map[bool]byte{true: 1}[t.Hid])
	}
	for _, k := range t.Kids {
		b = append(b, written(k)...)
	}
	return b
}

func writtenDecls(l []api.Decl) []byte {
	b := num(len(l))
	for _, d := range l {
		b = joined(b, num(d.Kind), text(d.Name), num(d.Levels), written(d.Type))
		if d.Kind == api.DDef {
			b = append(b, written(d.Value)...)
		}
		if d.Kind == api.DData {
			b = joined(b, num(d.Params), num(len(d.Ctors)))
			for _, c := range d.Ctors {
				b = joined(b, text(c.Name), written(c.Type))
			}
		}
	}
	return b
}

// random answers a term of all forms, with about that many parts.
func random(r *rand.Rand, parts int) api.Term {
	if parts <= 1 {
		leaves := []api.Term{variable(r.Intn(6)), variable(r.Intn(1 << 30)), meta(r.Intn(300)), set(), sort(lev(r.Intn(1001))), sort(lev(3, 1, 2, 7, 0)), sort(lev(0, r.Intn(1001), r.Intn(1001))), constant("c"), constant("name", lev(0, 0, 1), lev(4)), constant(strings.Repeat("x", 1+r.Intn(60)), make([]api.Level, r.Intn(200))...)}
		return leaves[r.Intn(len(leaves))]
	}
	half := parts / 2
	switch r.Intn(7) {
	case 0:
		return of(api.TFst+r.Intn(2), random(r, parts-1))
	case 1:
		return of(api.TPair, of(api.TSigma, random(r, parts/4), random(r, parts/4)), random(r, parts/4), random(r, parts/4))
	case 2:
		return of(api.TSigma, random(r, half), random(r, half))
	}
	t := of(api.TPi+r.Intn(3), random(r, half), random(r, half))
	t.Hid = r.Intn(2) == 0
	return t
}

func terms() []api.Term {
	r := rand.New(rand.NewSource(3))
	l := []api.Term{
		constant(strings.Repeat("x", api.MaxName)), constant("\x00\xff "), sort(many(64)), sort(lev(api.MaxLevel, api.MaxLevel, 999)),
		high(api.MaxHigh, set()), wide(api.MaxTerm-1, variable(130)), of(api.TSnd, wide(api.MaxTerm-1, meta(0))), heavy(1000),
	}
	for range 600 {
		l = append(l, random(r, 1+r.Intn(60)))
	}
	return l
}

func sample() api.Term {
	pair := of(api.TPair, of(api.TSigma, variable(1), set()), variable(1), hidden(of(api.TLam, set(), variable(300))))
	return of(api.TApp, of(api.TPi, constant("c", lev(0, 0, 0), lev(3, 1, 2)), pair), hidden(of(api.TApp, of(api.TFst, meta(2)), of(api.TSnd, sort(lev(0, 2, 3))))))
}

func noTerm(t *testing.T, what any, got api.Term, e, want api.Errno) {
	t.Helper()
	if e != want || !reflect.DeepEqual(got, api.Term{}) {
		t.Errorf("%v: %v, not %v; beside it %+v", what, e, want, got)
	}
}

func noBytes(t *testing.T, what any, got []byte, e, want api.Errno) {
	t.Helper()
	if e != want || len(got) != 0 {
		t.Errorf("%v: %v, not %v; beside it %d bytes", what, e, want, len(got))
	}
}

func noDecls(t *testing.T, what any, got []api.Decl, e, want api.Errno) {
	t.Helper()
	if e != want || len(got) != 0 {
		t.Errorf("%v: %v, not %v; beside it %d declarations", what, e, want, len(got))
	}
}

// forms are terms with their bytes.
func forms() []struct {
	t api.Term
	b []byte
} {
	s := set()
	return []struct {
		t api.Term
		b []byte
	}{
		{of(api.TLam, s, variable(0)), []byte{4, 0, 2, 0, 0, 1, 0}},
		{variable(0), []byte{1, 0}},
		{variable(127), []byte{1, 127}},
		{variable(128), []byte{1, 128, 1}},
		{variable(300), []byte{1, 172, 2}},
		{variable(16383), []byte{1, 255, 127}},
		{variable(16384), []byte{1, 128, 128, 1}},
		{variable(1 << 28), []byte{1, 128, 128, 128, 128, 1}},
		{variable(1<<30 - 1), []byte{1, 255, 255, 255, 255, 3}},
		{variable(1 << 30), []byte{1, 128, 128, 128, 128, 4}},
		{meta(5), []byte{11, 5}},
		{meta(1 << 30), []byte{11, 128, 128, 128, 128, 4}},
		{s, []byte{2, 0, 0}},
		{sort(lev(1000)), []byte{2, 232, 7, 0}},
		{sort(lev(3, 1, 2, 200, 0)), []byte{2, 3, 2, 1, 2, 200, 1, 0}},
		{of(api.TPi, variable(1), variable(2)), []byte{3, 0, 1, 1, 1, 2}},
		{hidden(of(api.TPi, variable(1), variable(2))), []byte{3, 1, 1, 1, 1, 2}},
		{hidden(of(api.TLam, variable(1), variable(2))), []byte{4, 1, 1, 1, 1, 2}},
		{of(api.TApp, variable(1), variable(2)), []byte{5, 0, 1, 1, 1, 2}},
		{hidden(of(api.TApp, variable(1), variable(2))), []byte{5, 1, 1, 1, 1, 2}},
		{of(api.TSigma, variable(1), variable(2)), []byte{6, 1, 1, 1, 2}},
		{of(api.TPair, of(api.TSigma, s, s), variable(1), variable(2)), []byte{7, 6, 2, 0, 0, 2, 0, 0, 1, 1, 1, 2}},
		{of(api.TFst, variable(1)), []byte{8, 1, 1}},
		{of(api.TSnd, variable(1)), []byte{9, 1, 1}},
		{constant("ab"), []byte{10, 2, 97, 98, 0}},
		{constant("\x80", lev(4), lev(0, 0, 1)), []byte{10, 1, 128, 2, 4, 0, 0, 1, 0, 1}},
	}
}

func TestP301Forms(t *testing.T) {
	for i, x := range forms() {
		if b, e := code.Term(x.t); e != api.OK || !bytes.Equal(b, x.b) {
			t.Errorf("%d: %v, %v; not %v", i, b, e, x.b)
		}
	}
}

func TestP301Terms(t *testing.T) {
	for i, x := range terms() {
		if b, e := code.Term(x); e != api.OK || !bytes.Equal(b, written(x)) {
			t.Fatalf("%d: %v, %v; not %v", i, b, e, written(x))
		}
	}
}

func TestP301TermWrong(t *testing.T) {
	endless := of(api.TApp, set(), set())
	endless.Kids[0], endless.Kids[1] = endless, endless
	for i, x := range []api.Term{
		{}, {Form: -1}, {Form: 12}, variable(-1), variable(1<<30 + 1), variable(math.MinInt), meta(math.MaxInt), sort(), sort(lev(0), lev(0)),
		sort(lev(-1)), sort(lev(1001)), sort(lev(2, 0, 2)), sort(lev(0, 1, 0, 0, 0)), sort(many(65)), constant(""), constant(strings.Repeat("x", 61)), constant("c", lev(0), lev(-1)),
		of(api.TPi, set()), of(api.TApp, set(), set(), set()), of(api.TFst), of(api.TPair, set(), set(), set()), of(api.TSnd, of(api.TFst, api.Term{})),
		high(api.MaxHigh+1, set()), high(api.MaxHigh+1, api.Term{}), wide(api.MaxTerm+1, set()), endless,
	} {
		want := term.Check(x)
		if want == api.OK {
			t.Fatalf("%d is right", i)
		}
		b, e := code.Term(x)
		noBytes(t, i, b, e, want)
	}
}

func TestP301TermJustFits(t *testing.T) {
	x := heavy(api.MaxBytes)
	b, e := code.Term(x)
	if e != api.OK || len(b) != api.MaxBytes || !bytes.Equal(b, written(x)) {
		t.Fatalf("%d bytes, %v", len(b), e)
	}
	if y, e := code.ReadTerm(b); e != api.OK || !term.Same(x, y) {
		t.Errorf("read again: %v", e)
	}
}

func TestP301TermTooLong(t *testing.T) {
	long := constant(strings.Repeat("x", api.MaxName))
	for _, x := range []api.Term{heavy(api.MaxBytes + 1), of(api.TFst, heavy(api.MaxBytes)), of(api.TApp, heavy(api.MaxBytes+1000), set()), wide(api.MaxTerm-1, constant("c", make([]api.Level, 60)...)), wide(api.MaxTerm-1, constant(long.Name, make([]api.Level, 20)...))} {
		b, e := code.Term(x)
		noBytes(t, "too many bytes", b, e, api.ErrLong)
	}
	for _, room := range []int{64, 30, 5, 3} { // the bytes behind the name would fit
		b, e := code.Term(of(api.TApp, heavy(api.MaxBytes-room), long))
		noBytes(t, room, b, e, api.ErrLong)
	}
	if b, e := code.Term(of(api.TApp, heavy(api.MaxBytes-65), long)); e != api.OK || len(b) != api.MaxBytes {
		t.Errorf("a name that fits: %v", e)
	}
	b, e := code.Term(of(api.TApp, heavy(api.MaxBytes+1), api.Term{}))
	noBytes(t, "wrong, too", b, e, api.ErrForm)
}

func TestP301DeclForms(t *testing.T) {
	d := def("d", set(), variable(1))
	d.Levels = 8
	family := api.Decl{Kind: api.DData, Name: "F", Levels: 1, Type: variable(2), Params: 60, Ctors: []api.Ctor{{Name: "c", Type: variable(3)}, {Name: "de", Type: meta(4)}}}
	for i, x := range []struct {
		l []api.Decl
		b []byte
	}{
		{nil, []byte{0}},
		{[]api.Decl{axiom("a", set())}, []byte{1, 1, 1, 97, 0, 2, 0, 0}},
		{[]api.Decl{d}, []byte{1, 2, 1, 100, 8, 2, 0, 0, 1, 1}},
		{[]api.Decl{family}, []byte{1, 3, 1, 70, 1, 1, 2, 60, 2, 1, 99, 1, 3, 2, 100, 101, 11, 4}},
		{[]api.Decl{axiom("a", set()), {Kind: api.DData, Name: "E", Type: set()}, axiom("b", variable(0))}, []byte{3, 1, 1, 97, 0, 2, 0, 0, 3, 1, 69, 0, 2, 0, 0, 0, 0, 1, 1, 98, 0, 1, 0}},
	} {
		if b, e := code.Decls(x.l); e != api.OK || !bytes.Equal(b, x.b) {
			t.Errorf("%d: %v, %v; not %v", i, b, e, x.b)
		}
		if l, e := code.ReadDecls(x.b); e != api.OK || len(l) != len(x.l) || !bytes.Equal(writtenDecls(l), x.b) {
			t.Errorf("%d: %+v, %v", i, l, e)
		}
	}
}

// full are declarations of which all is as great as it may be.
func full() []api.Decl {
	long := strings.Repeat("n", api.MaxName)
	d := api.Decl{Kind: api.DData, Name: long, Levels: api.MaxParams, Type: high(api.MaxHigh, set()), Params: api.MaxTele}
	for range api.MaxCtors {
		d.Ctors = append(d.Ctors, api.Ctor{Name: long, Type: set()})
	}
	l := []api.Decl{d, d, d}
	for len(l) < api.MaxDecls {
		l = append(l, axiom("a", set()))
	}
	return l
}

func TestP301DeclsRight(t *testing.T) {
	noise := list()
	noise.Kind, noise.Params, noise.Ctors = api.DDef, -1, make([]api.Ctor, 41)
	noise.Value = set()
	bare := noise
	bare.Kind, bare.Value = api.DAxiom, api.Term{Form: 99}
	family := nat()
	family.Value = api.Term{Form: 99}
	for i, l := range [][]api.Decl{nil, {}, decls(), full(), {noise}, {bare}, {family}, {nat(), nat()}} {
		if b, e := code.Decls(l); e != api.OK || !bytes.Equal(b, writtenDecls(l)) {
			t.Errorf("%d: %v, %v", i, b, e)
		}
	}
}

type fault struct {
	turn func(d *api.Decl)
	e    api.Errno
}

// faults are what may be wrong with a family, or with a definition, in the order in which it is told.
func faults(kind int) []fault {
	long := strings.Repeat("n", api.MaxName+1)
	bad := map[api.Errno]api.Term{api.ErrForm: of(api.TFst, api.Term{}), api.ErrLong: high(api.MaxHigh+1, api.Term{})}
	l := []fault{
		{func(d *api.Decl) { d.Name = "" }, api.ErrForm},
		{func(d *api.Decl) { d.Name = long }, api.ErrForm},
		{func(d *api.Decl) { d.Levels = -1 }, api.ErrLevels},
		{func(d *api.Decl) { d.Levels = api.MaxParams + 1 }, api.ErrLevels},
		{func(d *api.Decl) { d.Levels = math.MinInt }, api.ErrLevels},
		{func(d *api.Decl) { d.Type = bad[api.ErrForm] }, api.ErrForm},
		{func(d *api.Decl) { d.Type = bad[api.ErrLong] }, api.ErrLong},
	}
	if kind == api.DDef {
		return append(l, fault{func(d *api.Decl) { d.Value = bad[api.ErrForm] }, api.ErrForm}, fault{func(d *api.Decl) { d.Value = bad[api.ErrLong] }, api.ErrLong})
	}
	return append(l,
		fault{func(d *api.Decl) { d.Params = -1 }, api.ErrLong},
		fault{func(d *api.Decl) { d.Params = api.MaxTele + 1 }, api.ErrLong},
		fault{func(d *api.Decl) { d.Params = math.MaxInt }, api.ErrLong},
		fault{func(d *api.Decl) { d.Ctors = append(d.Ctors, make([]api.Ctor, 39)...) }, api.ErrLong},
		fault{func(d *api.Decl) { d.Ctors[0].Name = "" }, api.ErrForm},
		fault{func(d *api.Decl) { d.Ctors[0].Type = bad[api.ErrLong] }, api.ErrLong},
		fault{func(d *api.Decl) { d.Ctors[1].Name = long }, api.ErrForm},
		fault{func(d *api.Decl) { d.Ctors[1].Type = bad[api.ErrForm] }, api.ErrForm},
		fault{func(d *api.Decl) { d.Ctors[1].Type = bad[api.ErrLong] }, api.ErrLong},
	)
}

func TestP301DeclsWrongInOrder(t *testing.T) {
	starts := map[int]func() api.Decl{api.DData: nat, api.DDef: func() api.Decl { return def("d", set(), set()) }}
	for kind, start := range starts {
		all := faults(kind)
		for i, first := range all {
			for j := i; j < len(all); j++ {
				d := start()
				all[j].turn(&d)
				first.turn(&d)
				b, e := code.Decls([]api.Decl{d})
				noBytes(t, fmt.Sprint(kind, " ", i, " ", j), b, e, first.e)
				b, e = code.Decls([]api.Decl{nat(), d, {Kind: 9}})
				noBytes(t, fmt.Sprint("second ", kind, " ", i, " ", j), b, e, first.e)
			}
		}
	}
}

func TestP301DeclsOfNoKind(t *testing.T) {
	for _, kind := range []int{0, -1, 4, math.MaxInt, math.MinInt} {
		d := nat()
		d.Kind, d.Levels = kind, -1
		b, e := code.Decls([]api.Decl{d})
		noBytes(t, kind, b, e, api.ErrForm)
	}
}

func TestP301DeclsTooMany(t *testing.T) {
	l := full()
	b, e := code.Decls(append(l, axiom("a", set())))
	noBytes(t, "501", b, e, api.ErrLong)
	b, e = code.Decls(make([]api.Decl, api.MaxDecls+1))
	noBytes(t, "501 that are none", b, e, api.ErrLong)
	b, e = code.Decls(make([]api.Decl, api.MaxDecls))
	noBytes(t, "500 that are none", b, e, api.ErrForm)
}

func TestP301DeclsTooLong(t *testing.T) {
	l := []api.Decl{axiom("a", heavy(api.MaxBytes/2)), def("d", set(), heavy(api.MaxBytes/2-15))}
	if n := len(writtenDecls(l)); n != api.MaxBytes-3 {
		t.Fatal(n)
	}
	for _, name := range []string{"d", "ddd", "dddd"} {
		l[1].Name = name
		if b, e := code.Decls(l); e != api.OK || !bytes.Equal(b, writtenDecls(l)) {
			t.Fatalf("%s: %v", name, e)
		}
	}
	l[1].Name = "ddddd"
	b, e := code.Decls(l)
	noBytes(t, "1000001 bytes", b, e, api.ErrLong)
	b, e = code.Decls(append(l, api.Decl{}))
	noBytes(t, "a wrong one behind", b, e, api.ErrForm)
}

func TestP302ReadsWhatIsWritten(t *testing.T) {
	for i, x := range forms() {
		if y, e := code.ReadTerm(x.b); e != api.OK || !term.Same(x.t, y) {
			t.Errorf("form %d: %+v, %v", i, y, e)
		}
	}
	for i, x := range terms() {
		if y, e := code.ReadTerm(written(x)); e != api.OK || !term.Same(x, y) {
			t.Fatalf("%d: %+v, %v", i, y, e)
		}
	}
	for i, l := range [][]api.Decl{nil, decls(), full()} {
		m, e := code.ReadDecls(writtenDecls(l))
		if e != api.OK || len(m) != len(l) || !bytes.Equal(writtenDecls(m), writtenDecls(l)) {
			t.Errorf("%d: %v", i, e)
		}
		for k := range m {
			if !sameDecl(l[k], m[k]) {
				t.Errorf("%d, %d: %+v", i, k, m[k])
			}
		}
	}
}

// sameDecl holds a declaration without other fields than its Kind has against one that was read.
func sameDecl(a, b api.Decl) bool {
	value := a.Kind != api.DDef && reflect.DeepEqual(b.Value, api.Term{}) || term.Same(a.Value, b.Value)
	if a.Kind != b.Kind || a.Name != b.Name || a.Levels != b.Levels || !term.Same(a.Type, b.Type) || !value || a.Params != b.Params || len(a.Ctors) != len(b.Ctors) {
		return false
	}
	for i, c := range a.Ctors {
		if c.Name != b.Ctors[i].Name || !term.Same(c.Type, b.Ctors[i].Type) {
			return false
		}
	}
	return true
}

// judgeTerm asks that what is read be written as just these bytes, or ErrByte.
func judgeTerm(t *testing.T, b []byte) bool {
	t.Helper()
	x, e := code.ReadTerm(b)
	if e != api.OK {
		noTerm(t, b, x, e, api.ErrByte)
		return false
	}
	if term.Check(x) != api.OK || !bytes.Equal(written(x), b) {
		t.Fatalf("%v was taken as %+v", b, x)
	}
	return true
}

func judgeDecls(t *testing.T, b []byte) bool {
	t.Helper()
	l, e := code.ReadDecls(b)
	if e != api.OK {
		noDecls(t, b, l, e, api.ErrByte)
		return false
	}
	if again, e := code.Decls(l); e != api.OK || !bytes.Equal(again, b) || !bytes.Equal(writtenDecls(l), b) {
		t.Fatalf("%v was taken as %+v", b, l)
	}
	return true
}

func TestP302AllShortBytes(t *testing.T) {
	var alphabet []byte
	for _, c := range []int{0, 1, 2, 3, 4, 5, 6, 7, 8, 9, 10, 11, 12, 97, 127, 128, 129, 255} {
		alphabet = append(alphabet, byte(c))
	}
	taken := 0
	row := [][]byte{{}}
	for range 4 {
		var next [][]byte
		for _, b := range row {
			if judgeTerm(t, b) {
				taken++
			}
			judgeDecls(t, b)
			for _, c := range alphabet {
				next = append(next, append(b[:len(b):len(b)], c))
			}
		}
		row = next
	}
	// Of two bytes 2 * 15 variables and metas; of three the sorts of 15 numbers, 2 * 42 variables and metas (a byte of 128 or more, one of 1 to 127 behind it), and fst and snd of the 30.
	if want := 30 + 15 + 84 + 60; taken != want {
		t.Errorf("%d were taken, not %d", taken, want)
	}
}

func TestP302CutAndLonger(t *testing.T) {
	for _, x := range []api.Term{sample(), sort(lev(3, 1, 2, 7, 0)), constant("name", lev(500), lev(0, 300, 1)), variable(1 << 30)} {
		b := written(x)
		for i := range b {
			if judgeTerm(t, b[:i]) {
				t.Errorf("%v", b[:i])
			}
		}
		if judgeTerm(t, append(b, 0)) || judgeTerm(t, append(b, b...)) {
			t.Errorf("more than %v", b)
		}
	}
	b := writtenDecls([]api.Decl{nat(), list(), def("d", sample(), sample()), axiom("a", sample())})
	for i := range b {
		if judgeDecls(t, b[:i]) {
			t.Errorf("%v", b[:i])
		}
	}
	if judgeDecls(t, append(b, 0)) || judgeDecls(t, append(b, b...)) {
		t.Errorf("more than %v", b)
	}
}

func TestP302OneByteTurned(t *testing.T) {
	x := written(sample())
	l := writtenDecls([]api.Decl{nat(), list(), def("d", sample(), sample())})
	for i := range max(len(x), len(l)) {
		for c := range 256 {
			if i < len(x) {
				judgeTerm(t, joined(x[:i], []byte{byte(c)}, x[i+1:]))
				judgeTerm(t, joined(x[:i], []byte{byte(c)}, x[i:]))
			}
			if i < len(l) {
				judgeDecls(t, joined(l[:i], []byte{byte(c)}, l[i+1:]))
				judgeDecls(t, joined(l[:i], []byte{byte(c)}, l[i:]))
			}
		}
	}
}

func TestP302WrongBytes(t *testing.T) {
	s := []byte{2, 0, 0}
	for _, b := range [][]byte{
		nil, {0}, {12}, {12, 0}, {127}, {128, 2, 0, 0}, {129, 0, 0}, // no form, or one that is written too long
		{1, 128, 0}, {1, 255, 128, 0}, {11, 128, 0}, {1, 129, 128, 128, 128, 128, 0}, // numbers with a zero at their end
		{1, 129, 128, 128, 128, 4}, {1, 128, 128, 128, 128, 8}, {1, 255, 255, 255, 255, 127}, // above 2^30
		{1, 133, 128, 128, 128, 128, 128, 128, 128, 128, 2}, {1, 129, 128, 128, 128, 128, 128, 128, 128, 128, 128, 1}, {1, 133, 128, 128, 128, 16}, // 2^64 and 2^32, and some more
		{1, 255, 255, 255, 255, 255, 255, 255, 255, 255, 1}, {1, 255, 255, 255, 255, 255, 255, 255, 255, 127},
		{2, 233, 7, 0}, {2, 0, 1, 233, 7, 0}, {2, 0, 1, 0, 233, 7}, // above MaxLevel
		{2, 2, 1, 0, 2}, {2, 0, 2, 1, 0, 0, 0}, {2, 0, 2, 1, 0, 1, 0}, // levels that are not canonical
		joined([]byte{2, 0, 65}, writtenLevel(many(65))[2:]), {2, 128, 0, 0}, {2, 0, 128, 0},
		joined([]byte{3, 2}, s, s), joined([]byte{4, 128, 0}, s, s), joined([]byte{5, 255}, s, s), joined([]byte{3, 129, 0}, s, s), // Hid is 0 or 1
		joined([]byte{7}, s, s, s), joined([]byte{7, 3, 0}, s, s, s, s), // no TSigma
		{10, 0, 0}, {10, 1, 97, 128, 0}, {10, 129, 0, 97, 0}, joined([]byte{10}, text(strings.Repeat("x", 61)), []byte{0}),
		{10, 255, 255, 255, 255, 3, 97}, {10, 1, 97, 255, 255, 255, 255, 3, 0, 0}, {2, 0, 255, 255, 255, 255, 3, 0, 0}, // more than there is
		written(high(api.MaxHigh+1, set())), written(wide(api.MaxTerm+1, set())), written(of(api.TPi, set(), high(api.MaxHigh, set()))),
	} {
		if judgeTerm(t, b) {
			t.Errorf("%v", b)
		}
		if d := joined([]byte{1, 1, 1, 97, 0}, b); judgeDecls(t, d) {
			t.Errorf("the type of an axiom: %v", b)
		}
	}
}

func TestP302WrongDecls(t *testing.T) {
	for kind, start := range map[int]func() api.Decl{api.DData: nat, api.DDef: func() api.Decl { return def("d", set(), set()) }} {
		for i, f := range faults(kind) {
			d := start()
			f.turn(&d)
			if d.Levels < 0 || d.Params < 0 {
				continue // no bytes tell it
			}
			if judgeDecls(t, writtenDecls([]api.Decl{nat(), d})) {
				t.Errorf("%d, %d", kind, i)
			}
		}
	}
	for _, b := range [][]byte{
		nil, {128, 0}, {1}, {2, 1, 1, 97, 0, 2, 0, 0}, {0, 1, 1, 97, 0, 2, 0, 0}, {129, 0, 1, 1, 97, 0, 2, 0, 0},
		{1, 0, 1, 97, 0, 2, 0, 0}, {1, 4, 1, 97, 0, 2, 0, 0}, {1, 129, 0, 1, 97, 0, 2, 0, 0}, {1, 1, 129, 0, 97, 0, 2, 0, 0}, {1, 1, 1, 97, 128, 0, 2, 0, 0}, {1, 1, 0, 0, 2, 0, 0},
		{1, 1, 1, 97, 0, 2, 0, 0, 2, 0, 0}, {1, 2, 1, 97, 0, 2, 0, 0}, {1, 3, 1, 97, 0, 2, 0, 0}, {1, 3, 1, 97, 0, 2, 0, 0, 0}, {1, 3, 1, 97, 0, 2, 0, 0, 0, 1}, {1, 3, 1, 97, 0, 2, 0, 0, 128, 0, 0}, {1, 3, 1, 97, 0, 2, 0, 0, 0, 128, 0},
		{255, 255, 255, 255, 3}, {1, 3, 1, 97, 0, 2, 0, 0, 0, 255, 255, 255, 255, 3}, writtenDecls(append(full(), axiom("a", set()))),
	} {
		if judgeDecls(t, b) {
			t.Errorf("%v", b)
		}
	}
}

func TestP302TooLong(t *testing.T) {
	b := written(heavy(api.MaxBytes + 1))
	x, e := code.ReadTerm(b)
	noTerm(t, "a term's bytes", x, e, api.ErrLong)
	l, e := code.ReadDecls(writtenDecls([]api.Decl{axiom("a", heavy(api.MaxBytes))}))
	noDecls(t, "declarations' bytes", l, e, api.ErrLong)
	for c := range 256 {
		b := bytes.Repeat([]byte{byte(c)}, api.MaxBytes+1)
		x, e := code.ReadTerm(b)
		noTerm(t, c, x, e, api.ErrLong)
		l, e := code.ReadDecls(b)
		noDecls(t, c, l, e, api.ErrLong)
	}
}

func TestP302ManyBytesOfOneKind(t *testing.T) {
	for c := range 256 {
		b := bytes.Repeat([]byte{byte(c)}, api.MaxBytes)
		if judgeTerm(t, b) || judgeDecls(t, b) {
			t.Errorf("%d", c)
		}
	}
	for _, row := range [][]byte{{5, 0}, {5, 0, 1, 0}, {3, 0, 2, 0, 0}, {6, 1, 0}, {7, 6, 1, 0, 1, 0}, {1, 1, 97, 0, 1, 0}} {
		b := bytes.Repeat(row, api.MaxBytes/len(row))
		if judgeTerm(t, b) || judgeDecls(t, b) || judgeDecls(t, append([]byte{255, 255, 255, 255, 3}, b[:len(b)-5]...)) {
			t.Errorf("%v", row)
		}
	}
}

// noisy fills the fields that the forms of x do not have.
func noisy(x api.Term) api.Term {
	y := api.Term{Form: x.Form, N: 9, Hid: true, Name: "x", Levels: []api.Level{{N: -7}}, Kids: []api.Term{}}
	for _, k := range x.Kids {
		y.Kids = append(y.Kids, noisy(k))
	}
	switch x.Form {
	case api.TVar, api.TMeta:
		y.N = x.N
	case api.TPi, api.TLam, api.TApp:
		y.Hid = x.Hid
	case api.TConst:
		y.Name, y.Levels = x.Name, x.Levels
	case api.TSort:
		y.Levels = x.Levels
	}
	return y
}

// bare takes what noisy fills away.
func bare(x api.Term) api.Term {
	y := api.Term{Form: x.Form}
	for _, k := range x.Kids {
		y.Kids = append(y.Kids, bare(k))
	}
	switch x.Form {
	case api.TVar, api.TMeta:
		y.N = x.N
	case api.TPi, api.TLam, api.TApp:
		y.Hid = x.Hid
	case api.TConst:
		y.Name = x.Name
		fallthrough
	case api.TSort:
		y.Levels = x.Levels
	}
	return y
}

func TestP303OtherFields(t *testing.T) {
	b, e := code.Term(noisy(sample()))
	if e != api.OK || !bytes.Equal(b, written(sample())) {
		t.Errorf("Term: %v", e)
	}
	x, e := code.ReadTerm(b)
	if e != api.OK || !reflect.DeepEqual(x, bare(x)) {
		t.Errorf("ReadTerm: %v, %+v", e, x)
	}
	l := []api.Decl{axiom("a", sample()), def("d", sample(), sample()), list()}
	noise := []api.Decl{axiom("a", noisy(sample())), def("d", noisy(sample()), noisy(sample())), list()}
	noise[0].Value, noise[2].Value = api.Term{Form: 99}, api.Term{Form: 99}
	noise[0].Params, noise[1].Params = -1, 99
	noise[0].Ctors, noise[1].Ctors = make([]api.Ctor, 41), make([]api.Ctor, 41)
	b, e = code.Decls(noise)
	if e != api.OK || !bytes.Equal(b, writtenDecls(l)) {
		t.Errorf("Decls: %v", e)
	}
	m, e := code.ReadDecls(b)
	if e != api.OK || len(m) != 3 {
		t.Fatalf("ReadDecls: %v", e)
	}
	for i, d := range m {
		if !sameDecl(l[i], d) || !reflect.DeepEqual(d.Type, bare(d.Type)) || !reflect.DeepEqual(d.Value, bare(d.Value)) {
			t.Errorf("ReadDecls: %+v", d)
		}
	}
}

// roomy answers a term of the same parts, whose lists have spare room with something in it.
func roomy(t api.Term) api.Term {
	kids := append(make([]api.Term, 0, len(t.Kids)+3), t.Kids...)
	for i, k := range kids {
		kids[i] = roomy(k)
	}
	levels := append(make([]api.Level, 0, len(t.Levels)+3), t.Levels...)
	for i, l := range levels {
		vars := append(make([]api.LVar, 0, len(l.Vars)+3), l.Vars...)
		fill(vars, api.LVar{Var: 5, Add: 5})
		levels[i].Vars = vars
	}
	fill(kids, variable(77))
	fill(levels, lev(77))
	t.Kids, t.Levels = kids, levels
	return t
}

func roomyDecls(l []api.Decl) []api.Decl {
	out := append(make([]api.Decl, 0, len(l)+3), l...)
	for i, d := range out {
		ctors := append(make([]api.Ctor, 0, len(d.Ctors)+3), d.Ctors...)
		for k := range ctors {
			ctors[k].Type = roomy(ctors[k].Type)
		}
		fill(ctors, api.Ctor{Name: "room"})
		out[i].Type, out[i].Value, out[i].Ctors = roomy(d.Type), roomy(d.Value), ctors
	}
	fill(out, axiom("room", variable(77)))
	return out
}

func fill[T any](l []T, x T) {
	room := l[len(l):cap(l)]
	for i := range room {
		room[i] = x
	}
}

// whole shows a term with its spare room.
func whole(t api.Term) string {
	s := fmt.Sprint(t.Form, t.N, t.Hid, t.Name)
	for _, l := range t.Levels[:cap(t.Levels)] {
		s += fmt.Sprint(l.N, l.Vars[:cap(l.Vars)])
	}
	for _, k := range t.Kids[:cap(t.Kids)] {
		s += "(" + whole(k) + ")"
	}
	return s
}

func wholeDecls(l []api.Decl) string {
	s := ""
	for _, d := range l[:cap(l)] {
		s += fmt.Sprint(d.Kind, d.Name, d.Levels, d.Params, whole(d.Type), whole(d.Value))
		for _, c := range d.Ctors[:cap(d.Ctors)] {
			s += fmt.Sprint(c.Name, whole(c.Type))
		}
	}
	return s
}

func TestP303NothingIsChanged(t *testing.T) {
	x, l := roomy(sample()), roomyDecls(decls()[:3])
	before := whole(x) + wholeDecls(l)
	if b, e := code.Term(x); e != api.OK || !bytes.Equal(b, written(sample())) {
		t.Errorf("Term: %v", e)
	}
	if b, e := code.Decls(l); e != api.OK || !bytes.Equal(b, writtenDecls(decls()[:3])) {
		t.Errorf("Decls: %v", e)
	}
	if whole(x)+wholeDecls(l) != before {
		t.Error("what was handed in was changed")
	}
	for _, b := range [][]byte{written(sample()), writtenDecls(decls()[:3])} {
		long := append(b[:len(b):len(b)], 1, 2, 3)
		code.ReadTerm(long[:len(b)])
		code.ReadDecls(long[:len(b)])
		if !bytes.Equal(long, append(b, 1, 2, 3)) {
			t.Error("bytes that were handed in were changed")
		}
	}
}

func TestP303NothingIsKept(t *testing.T) {
	b, c := written(sample()), writtenDecls(decls()[:3])
	x, _ := code.ReadTerm(b)
	l, _ := code.ReadDecls(c)
	first, _ := code.Term(x)
	second, _ := code.Decls(l)
	clear(b)
	clear(c)
	if !bytes.Equal(written(x), written(sample())) || !bytes.Equal(writtenDecls(l), writtenDecls(decls()[:3])) {
		t.Error("bytes that were handed in were kept")
	}
	x.Kids[0].Kids[0].Levels[1].Vars[0].Add = 1
	l[1].Ctors[0].Name = "other"
	if !bytes.Equal(first, written(sample())) || !bytes.Equal(second, writtenDecls(decls()[:3])) {
		t.Error("what was handed in was kept")
	}
	clear(first)
	clear(second)
	if again, _ := code.Term(sample()); !bytes.Equal(again, written(sample())) {
		t.Error("an answer was kept")
	}
	if again, _ := code.Decls(decls()[:3]); !bytes.Equal(again, writtenDecls(decls()[:3])) {
		t.Error("an answer was kept")
	}
}

// places tells of lists that have a place in common.
type places struct {
	t    *testing.T
	seen map[any]bool
}

func see[T any](p places, l []T) {
	for i := range l[:cap(l)] {
		at := &l[:cap(l)][i]
		if p.seen[at] {
			p.t.Fatal("two lists share memory")
		}
		p.seen[at] = true
	}
}

func (p places) term(x api.Term) {
	see(p, x.Kids)
	see(p, x.Levels)
	for _, l := range x.Levels {
		see(p, l.Vars)
	}
	for _, k := range x.Kids {
		p.term(k)
	}
}

func TestP303EachListIsItsOwn(t *testing.T) {
	p := places{t, map[any]bool{}}
	one := sample()
	twice := written(of(api.TApp, of(api.TApp, one, one), of(api.TApp, one, one)))
	for range 2 {
		x, e := code.ReadTerm(twice)
		if e != api.OK {
			t.Fatal(e)
		}
		p.term(x)
		l, e := code.ReadDecls(writtenDecls([]api.Decl{list(), list(), axiom("a", one), def("d", one, one)}))
		if e != api.OK {
			t.Fatal(e)
		}
		see(p, l)
		for _, d := range l {
			p.term(d.Type)
			p.term(d.Value)
			see(p, d.Ctors)
			for _, c := range d.Ctors {
				p.term(c.Type)
			}
		}
		b, _ := code.Term(one)
		see(p, b)
		b, _ = code.Decls(l)
		see(p, b)
		b, _ = code.Decls(nil)
		see(p, b)
	}
}

func TestP303SameAgain(t *testing.T) {
	wrong := []byte{8, 8, 8, 8}
	for range 3 {
		judgeTerm(t, wrong)
		judgeDecls(t, wrong)
		x, e := code.ReadTerm(written(sample()))
		if e != api.OK || !term.Same(x, sample()) {
			t.Errorf("%v", e)
		}
		if b, e := code.Decls(decls()); e != api.OK || !bytes.Equal(b, writtenDecls(decls())) {
			t.Errorf("%v", e)
		}
	}
}
