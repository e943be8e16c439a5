package conv_test

import (
	"testing"

	"telamon/api"
	"telamon/conv"
	"telamon/sig"
)

// told fails, if Conv of a and b, or of b and a, does not tell just that.
func told(t *testing.T, s *sig.Sig, what string, a, b api.Term, fuel int, want bool, e api.Errno) {
	t.Helper()
	for range 2 {
		if got, e2 := conv.Conv(s, a, b, fuel); got != want || e2 != e {
			t.Errorf("%s: %s and %s: %v, %v, not %v, %v", what, show(a), show(b), got, e2, want, e)
		}
		a, b = b, a
	}
}

type twoTerms struct{ a, b api.Term }

// all fails, if one of these pairs is not what want says, as it stands, or by steps, or within each form.
func all(t *testing.T, want bool, pairs map[string]twoTerms) {
	t.Helper()
	s := signature(t)
	for what, x := range pairs {
		told(t, s, what, x.a, x.b, much, want, api.OK)
		told(t, s, what+", by a step", by(x.a), x.b, much, want, api.OK)
		for form, within := range around() {
			told(t, s, what+", in "+form, within(x.a), within(x.b), much, want, api.OK)
		}
	}
}

// around is forms in which two terms are one just if what stands in them is.
func around() map[string]func(api.Term) api.Term {
	return map[string]func(api.Term) api.Term{
		"a domain":          func(t api.Term) api.Term { return pi("x", t, c("a")) },
		"a codomain":        func(t api.Term) api.Term { return pi("x", c("a"), t) },
		"a first type":      func(t api.Term) api.Term { return sigma("x", t, c("a")) },
		"a second type":     func(t api.Term) api.Term { return sigma("x", c("a"), by(t)) },
		"a body":            func(t api.Term) api.Term { return lam("x y", t) },
		"an argument":       func(t api.Term) api.Term { return c("f", c("a"), t) },
		"one ahead":         func(t api.Term) api.Term { return c("f", t, c("a"), c("b")) },
		"a first part":      func(t api.Term) api.Term { return pair(t, c("a")) },
		"a second part":     func(t api.Term) api.Term { return pair(c("a"), by(t)) },
		"what is projected": func(t api.Term) api.Term { return fst(c("f", t)) },
		"a method":          func(t api.Term) api.Term { return natElim(c("z"), t, c("n")) },
		"an x":              func(t api.Term) api.Term { return natElim(c("z"), c("s"), c("f", t)) },
		"an x by a step":    func(t api.Term) api.Term { return natElim(c("f", t), c("s"), by(c("zero"))) },
	}
}

func TestP801Examples(t *testing.T) {
	all(t, true, map[string]twoTerms{
		"λ x. f x and f":        {lam("x", c("f", c("x"))), c("f")},
		"(fst p, snd p) and p":  {pair(fst(c("p")), snd(c("p"))), c("p")},
		"Set v0+1, as in types": {at("type", []api.Level{{}, param(0, 0)}), sort(api.Level{Vars: []api.LVar{{Var: 0, Add: 2}}, N: 0})},
	})
}

func TestP801Lambdas(t *testing.T) {
	x, y := c("x"), c("y")
	all(t, true, map[string]twoTerms{
		"two":                      {lam("x", x), lam("y", y)},
		"the domain aside":         {bind(api.TLam, "x", c("a"), x), bind(api.TLam, "x", c("loop"), x)},
		"a variable":               {lam("x", app(variable(2), x)), variable(2)},
		"the innermost one":        {lam("x", app(variable(0), x)), variable(0)},
		"a meta":                   {lam("x", app(meta(3), x)), meta(3)},
		"two λs":                   {lam("x y", c("f", x, y)), c("f")},
		"two λs and one":           {lam("x y", c("f", x, y)), lam("x", c("f", x))},
		"a row":                    {lam("x", c("f", c("a"), x)), c("f", c("a"))},
		"a projection":             {lam("x", app(fst(c("p")), x)), fst(c("p"))},
		"a constructor":            {lam("x", c("suc", x)), c("suc")},
		"an eliminator without x":  {lam("x", natElim(c("z"), c("s"), x)), natElim(c("z"), c("s"), x).Kids[0]},
		"one with a step in x":     {lam("x", natElim(c("z"), c("s"), by(x))), natElim(c("z"), c("s"), x).Kids[0]},
		"a definition":             {lam("m", c("plus", c("m"))), c("plus")},
		"a wrong number of levels": {lam("m", c("id", c("m"))), c("id")},
		"a type":                   {lam("x", app(set(), x)), set()},
		"a type of functions":      {lam("x", app(pi("y", x, y), x)), lam("z", app(pi("x", c("z"), x), c("z")))},
		"by steps in the body":     {lam("x", by(c("f", by(x)))), c("f")},
		"in an argument":           {c("f", lam("x", c("b", x))), c("f", c("b"))},
	})
	all(t, false, map[string]twoTerms{
		"other bodies":             {lam("x", x), lam("x", c("a"))},
		"other variables":          {lam("x y", x), lam("x y", y)},
		"a variable that is free":  {lam("x", x), lam("x", variable(0))},
		"another function":         {lam("x", c("f", x)), c("g")},
		"another variable":         {lam("x", app(variable(1), x)), variable(0)},
		"another argument":         {lam("x", c("f", c("a"))), c("f")},
		"the same variable inside": {lam("x", app(x, x)), variable(0)},
		"one argument more":        {lam("x", c("f", x, x)), c("f")},
		"none":                     {lam("x", c("f")), c("f")},
		"the other order":          {lam("x y", c("f", y, x)), c("f")},
		"two λs and a row of one":  {lam("x y", c("f", x)), c("f")},
		"a λ and a pair":           {lam("x", x), pair(c("a"), c("b"))},
		"a λ and a type":           {lam("x", x), pi("x", c("Nat"), x)},
	})
}

func TestP801Pairs(t *testing.T) {
	p, a, b := c("p"), c("a"), c("b")
	other := of(api.TPair, sigma("x", a, c("loop")), a, b)
	all(t, true, map[string]twoTerms{
		"two":                  {pair(a, b), pair(by(a), by(b))},
		"the type aside":       {pair(a, b), other},
		"a variable":           {pair(fst(variable(1)), snd(variable(1))), variable(1)},
		"a meta":               {pair(fst(meta(1)), snd(meta(1))), meta(1)},
		"a row":                {pair(fst(c("f", a)), snd(c("f", a))), c("f", a)},
		"a projection":         {pair(fst(fst(p)), snd(fst(p))), fst(p)},
		"pairs in pairs":       {pair(fst(p), pair(fst(snd(p)), snd(snd(p)))), p},
		"a λ in a pair":        {pair(lam("x", app(fst(p), c("x"))), snd(p)), p},
		"a pair in a λ":        {lam("x", pair(fst(c("f", c("x"))), snd(c("f", c("x"))))), c("f")},
		"a definition":         {pair(fst(c("one")), snd(c("one"))), c("suc", c("zero"))},
		"by steps":             {pair(by(fst(by(p))), fst(pair(snd(p), a))), by(p)},
		"a pair applied":       {app(pair(a, b), a), app(other, a)},
		"one against a head":   {app(pair(fst(p), snd(p)), a), app(p, a)},
		"one against a row":    {app(pair(fst(c("f", b)), snd(c("f", b))), a), c("f", b, a)},
		"and a projection":     {app(pair(fst(fst(p)), snd(fst(p))), a), app(fst(p), a)},
		"a projection of a λ":  {fst(lam("x", c("f", c("x")))), fst(c("f"))},
		"one of a row and a λ": {snd(lam("x", c("f", a, c("x")))), snd(c("f", a))},
	})
	all(t, false, map[string]twoTerms{
		"another first part":  {pair(a, b), pair(b, b)},
		"another second part": {pair(a, b), pair(a, a)},
		"the other order":     {pair(snd(p), fst(p)), p},
		"twice the first":     {pair(fst(p), fst(p)), p},
		"of two":              {pair(fst(p), snd(a)), p},
		"a pair and a type":   {pair(a, b), sigma("x", a, b)},
		"a pair applied":      {app(pair(a, b), a), app(pair(b, b), a)},
		"another argument":    {app(pair(a, b), a), app(pair(a, b), b)},
		"against a row":       {app(pair(fst(c("f", b)), snd(c("f", a))), a), c("f", b, a)},
		"more arguments":      {app(pair(fst(p), snd(p)), a, a), app(p, a)},
	})
}

func TestP801Types(t *testing.T) {
	x, a, b := c("x"), c("a"), c("b")
	all(t, true, map[string]twoTerms{
		"Π":            {pi("x", a, c("f", x)), pi("y", a, c("f", c("y")))},
		"Π with steps": {pi("x", by(a), by(x)), pi("x", a, x)},
		"Σ":            {sigma("x", a, c("f", x)), sigma("x", a, c("f", x))},
		"Hids aside":   {hidden(pi("x", a, hidden(arrow(x, b)))), pi("x", a, arrow(x, b))},
		"in one":       {pi("x", a, sigma("y", x, c("f", x, c("y")))), pi("x", a, sigma("z", x, c("f", by(x), c("z"))))},
		"applied":      {app(pi("x", a, x), b), app(pi("x", by(a), x), b)},
	})
	all(t, false, map[string]twoTerms{
		"another domain":       {pi("x", a, x), pi("x", b, x)},
		"another codomain":     {pi("x", a, a), pi("x", a, b)},
		"another variable":     {pi("x", a, x), pi("x", a, variable(0))},
		"the inner one of two": {pi("x", a, pi("y", a, x)), pi("x", a, pi("y", a, c("y")))},
		"the same of Σs":       {sigma("x", a, sigma("y", a, x)), sigma("x", a, sigma("y", a, c("y")))},
		"under a λ":            {pi("x", a, lam("y", x)), pi("x", a, lam("y", c("y")))},
		"another first type":   {sigma("x", a, x), sigma("x", b, x)},
		"another second type":  {sigma("x", a, a), sigma("x", a, b)},
		"a Π and a Σ":          {pi("x", a, x), sigma("x", a, x)},
		"a Π and a λ":          {pi("x", a, x), bind(api.TLam, "x", a, x)},
		"a Π and a sort":       {pi("x", a, x), set()},
		"no eta for types":     {pi("x", a, app(b, x)), b},
		"applied to something": {app(pi("x", a, x), a), pi("x", a, x)},
	})
}

func TestP801Levels(t *testing.T) {
	l := func(n int, vars ...api.LVar) api.Level { return api.Level{N: n, Vars: vars} }
	v := func(n, add int) api.LVar { return api.LVar{Var: n, Add: add} }
	k := func(levels ...api.Level) api.Term { return at("k", levels) }
	for _, x := range []struct {
		a, b api.Level
		same bool
	}{
		{l(0), l(0), true}, {l(3), l(3), true}, {l(3), l(4), false}, {l(0), l(1), false},
		{l(0, v(0, 0)), l(0, v(0, 0)), true}, {l(0, v(0, 0)), l(0), false}, {l(0, v(0, 0)), l(0, v(1, 0)), false}, {l(0, v(0, 1)), l(0, v(0, 0)), false},
		{l(5, v(0, 1), v(2, 3)), l(5, v(0, 1), v(2, 3)), true}, {l(5, v(0, 1), v(2, 3)), l(4, v(0, 1), v(2, 3)), false}, {l(5, v(0, 1), v(2, 3)), l(5, v(0, 1), v(2, 2)), false},
		{l(api.MaxLevel), l(api.MaxLevel), true}, {l(0, v(api.MaxLevel, api.MaxLevel)), l(0, v(api.MaxLevel, api.MaxLevel)), true},
	} {
		all(t, x.same, map[string]twoTerms{
			"sorts":         {sort(x.a), sort(x.b)},
			"the first one": {k(x.a, l(1)), k(x.b, l(1))},
			"the last one":  {k(l(1), x.a), k(l(1), x.b)},
			"by a value":    {at("sort", []api.Level{x.a}), sort(x.b)},
		})
	}
}

func TestP801Constants(t *testing.T) {
	z := zeros(4)
	all(t, true, map[string]twoTerms{
		"one":                  {c("a"), c("a")},
		"one that is nothing":  {c("nothing"), c("nothing")},
		"a definition":         {c("one"), number(1)},
		"two with one value":   {c("one"), c("one'")},
		"one that is stuck":    {c("id"), c("id")},
		"a family":             {c("Nat"), c("Nat")},
		"an eliminator":        {at("Nat.elim", z[:1]), at("Nat.elim", z[:1])},
		"levels that are none": {at("nothing", z[:3]), at("nothing", z[:3])},
		"by levels":            {at("id", z[:1], c("Nat"), c("a")), at("id", []api.Level{{N: 7}}, set(), c("a"))},
	})
	all(t, false, map[string]twoTerms{
		"two":                    {c("a"), c("b")},
		"two constructors":       {c("zero"), c("suc")},
		"a family and its own":   {c("Nat"), c("zero")},
		"more levels":            {at("k", z[:2]), at("k", z[:1])},
		"none":                   {at("k", z[:2]), c("k")},
		"a definition with less": {at("id", z[:1]), c("id")},
		"another case":           {c("Nat"), c("nat")},
		"a constant and a sort":  {c("a"), set()},
		"and a meta":             {c("a"), meta(0)},
		"and a variable":         {c("a"), variable(0)},
	})
}

func TestP801Numbers(t *testing.T) {
	top := 1<<30 - 3 // the tests go under two binders
	all(t, true, map[string]twoTerms{
		"variables":     {variable(0), variable(0)},
		"great ones":    {variable(top), variable(top)},
		"metas":         {meta(0), meta(0)},
		"great metas":   {meta(1 << 30), meta(1 << 30)},
		"metas applied": {app(meta(1), c("a")), app(meta(1), by(c("a")))},
	})
	all(t, false, map[string]twoTerms{
		"variables":            {variable(0), variable(1)},
		"great ones":           {variable(top), variable(top - 1)},
		"metas":                {meta(0), meta(1)},
		"a variable, a meta":   {variable(2), meta(2)},
		"metas applied":        {app(meta(1), c("a")), app(meta(2), c("a"))},
		"a variable, a number": {variable(0), c("zero")},
	})
	s := signature(t)
	told(t, s, "the greatest", variable(1<<30), variable(1<<30), 0, true, api.OK)
	told(t, s, "not the greatest", variable(1<<30), variable(1<<30-1), 0, false, api.OK)
}

func TestP801Rows(t *testing.T) {
	f, a, b, p := c("f"), c("a"), c("b"), c("p")
	all(t, true, map[string]twoTerms{
		"of one":             {app(f, a), app(f, a)},
		"of three":           {app(f, a, b, a), app(f, by(a), b, by(a))},
		"Hids aside":         {hidden(app(hidden(app(f, a)), b)), app(f, a, b)},
		"a sort applied":     {app(set(), a), app(set(), a)},
		"parts":              {fst(p), fst(by(p))},
		"parts of parts":     {snd(fst(by(snd(p)))), snd(fst(snd(p)))},
		"of a row":           {fst(app(f, a)), fst(app(f, by(a)))},
		"a part applied":     {app(fst(p), a), app(fst(by(p)), by(a))},
		"eliminators":        {natElim(a, b, by(p)), natElim(a, by(b), p)},
		"and more behind":    {app(natElim(a, b, by(p)), a), app(natElim(a, by(b), p), by(a))},
		"constructors":       {c("suc", c("plus", number(1), a)), c("suc", c("suc", a))},
		"a sum":              {c("plus", number(7), number(4)), number(11)},
		"a sum with a head":  {c("plus", number(2), a), c("suc", c("suc", a))},
		"of a variable":      {c("plus", variable(0), number(2)), c("plus", by(variable(0)), c("suc", c("one")))},
		"a tree":             {c("W.elim"), c("W.elim")},
		"what is recursive":  {at("W.elim", zeros(1), c("Nat"), f, p, b, c("sup", c("Nat"), f, a, c("h"))), app(b, a, c("h"), lam("z", at("W.elim", zeros(1), c("Nat"), f, p, b, app(c("h"), c("z")))))},
		"a proof":            {at("Eq.elim", zeros(2), c("Nat"), a, p, b, a, at("refl", zeros(1), c("Nat"), a)), b},
		"the parts of a sum": {fst(pair(c("plus", number(1), a), b)), c("suc", a)},
	})
	all(t, false, map[string]twoTerms{
		"another function":        {app(f, a), app(b, a)},
		"another argument":        {app(f, a), app(f, b)},
		"the first of two":        {app(f, a, a), app(f, b, a)},
		"one more behind":         {app(f, a), app(f, a, a)},
		"one more ahead":          {app(f, b, a), app(f, a)},
		"parts of two":            {fst(p), fst(a)},
		"the other part":          {fst(p), snd(p)},
		"a part and what it is":   {fst(p), p},
		"a part of a row":         {fst(app(f, a)), fst(app(f, b))},
		"a row of a part":         {app(fst(p), a), fst(app(p, a))},
		"the other part at first": {app(fst(p), a), app(snd(p), a)},
		"a part and a row":        {app(fst(p), a), app(f, b, a)},
		"sorts applied":           {app(set(), a), app(sort(api.Level{N: 1}), a)},
		"eliminators":             {natElim(a, b, p), natElim(a, b, f)},
		"other methods":           {natElim(a, b, p), natElim(b, b, p)},
		"no eta for numbers":      {c("plus", a, number(0)), a},
		"a sum":                   {c("plus", number(7), number(4)), number(12)},
		"constructors":            {c("suc", a), c("zero")},
		"the other order":         {c("plus", a, b), c("plus", b, a)},
	})
}

// Parts are asked from the left, and what comes behind a false one is not looked at.
func TestP801Order(t *testing.T) {
	s, loop, a, b := signature(t), c("loop"), c("a"), c("b")
	for what, of := range map[string]func(x, y api.Term) api.Term{
		"Π":         func(x, y api.Term) api.Term { return pi("z", x, y) },
		"Σ":         func(x, y api.Term) api.Term { return sigma("z", x, y) },
		"pairs":     pair,
		"rows":      func(x, y api.Term) api.Term { return c("f", x, y) },
		"functions": func(x, y api.Term) api.Term { return app(meta(0), c("g", x), y) },
		"heads":     func(x, y api.Term) api.Term { return app(fst(c("g", x)), y) },
		"applied":   func(x, y api.Term) api.Term { return app(pair(x, a), y) },
		"nested":    func(x, y api.Term) api.Term { return pi("z", sigma("z", a, lam("u", x)), c("f", y)) },
	} {
		told(t, s, what+": false, then a loop", of(a, loop), of(b, loop), 1000, false, api.OK)
		told(t, s, what+": true, then a loop", of(a, loop), of(a, loop), 1000, false, api.ErrFuel)
		told(t, s, what+": a loop, then false", of(loop, a), of(loop, b), 1000, false, api.ErrFuel)
		told(t, s, what+": a loop on one side", of(loop, a), of(a, b), 1000, false, api.ErrFuel)
	}
	told(t, s, "other forms", fst(c("f", loop)), snd(c("f", loop)), 0, false, api.OK)
	told(t, s, "other heads", c("f", loop), c("g", loop), 0, false, api.OK)
	told(t, s, "a row longer than another", c("f", loop, loop), c("f", loop), 0, false, api.OK)
	told(t, s, "arguments behind other heads", app(fst(a), loop, loop), app(fst(b), loop, loop), 0, false, api.OK)
	told(t, s, "domains aside", bind(api.TLam, "x", loop, a), bind(api.TLam, "x", a, a), 0, true, api.OK)
	told(t, s, "a sort, a loop", set(), loop, 1000, false, api.ErrFuel)
	told(t, s, "the same loop", loop, loop, 1000, false, api.ErrFuel)
}

func TestP801Wrong(t *testing.T) {
	s := signature(t)
	form, long := of(api.TApp, c("a")), high(api.MaxHigh+1, c("a"))
	for what, x := range map[string]struct {
		a, b api.Term
		e    api.Errno
	}{
		"the zero term":         {api.Term{}, c("a"), api.ErrForm},
		"b":                     {c("a"), form, api.ErrForm},
		"a's first":             {form, long, api.ErrForm},
		"a's first, the other":  {long, form, api.ErrLong},
		"too many parts":        {c("a"), wide(api.MaxTerm+1, c("a")), api.ErrLong},
		"a form that is none":   {api.Term{Form: 12}, c("a"), api.ErrForm},
		"below 0":               {api.Term{Form: -1}, c("a"), api.ErrForm},
		"an index":              {variable(1<<30 + 1), c("a"), api.ErrForm},
		"an index below 0":      {c("a"), variable(-1), api.ErrForm},
		"far below 0":           {variable(-1 << 63), variable(-1 << 63), api.ErrForm},
		"a meta":                {c("a"), meta(-1), api.ErrForm},
		"a level":               {sort(api.Level{N: -1}), set(), api.ErrForm},
		"one not canonical":     {set(), sort(api.Level{Vars: []api.LVar{{Var: 1}, {Var: 0}}}), api.ErrForm},
		"a pair of no Σ":        {of(api.TPair, c("a"), c("a"), c("a")), c("a"), api.ErrForm},
		"what is not looked at": {bind(api.TLam, "x", form, c("x")), id(), api.ErrForm},
		"nor that":              {c("a"), c("b", form), api.ErrForm},
	} {
		for _, fuel := range []int{-1, 0, much} {
			if got, e := conv.Conv(s, x.a, x.b, fuel); got || e != x.e {
				t.Errorf("%s: %v, %v, not %v", what, got, e, x.e)
			}
		}
	}
	told(t, nil, "a nil signature", c("one"), number(1), much, false, api.OK)
	told(t, nil, "nothing unfolds in it", c("one"), by(c("one")), much, true, api.OK)
	told(t, new(sig.Sig), "nor in an empty one", c("plus", number(1)), c("plus", number(1)), much, true, api.OK)
}
