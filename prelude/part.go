package prelude

import "telamon/api"

// part is a term that is told only when it is written how many binders are around it. So a variable is handed on as a value from where it is bound, and each place where a part is written has memory of its own.
type part func(deep int) api.Term

// height is a level, made anew for each place: two lists of one answer may not share it.
type height func() api.Level

func least() api.Level { return api.Level{} }

// parameter is l, the one level parameter of those that have one.
func parameter() api.Level { return api.Level{Vars: []api.LVar{{Var: 0}}} }

func written(levels []height) []api.Level {
	var out []api.Level
	for _, l := range levels {
		out = append(out, l())
	}
	return out
}

func set(l height) part {
	return func(int) api.Term {
		return api.Term{Form: api.TSort, Levels: written([]height{l})}
	}
}

func constant(name string, levels ...height) part {
	return func(int) api.Term {
		return api.Term{Form: api.TConst, Name: name, Levels: written(levels)}
	}
}

// applied is f with all args behind it.
func applied(f part, args ...part) part {
	for _, a := range args {
		f = behind(f, a)
	}
	return f
}

func behind(f, a part) part {
	return func(deep int) api.Term {
		return api.Term{Form: api.TApp, Kids: []api.Term{f(deep), a(deep)}}
	}
}

// pi hands to codomain the variable that it binds.
func pi(domain part, codomain func(x part) part) part {
	return func(deep int) api.Term {
		x := func(inner int) api.Term { return api.Term{Form: api.TVar, N: inner - deep - 1} }
		return api.Term{Form: api.TPi, Kids: []api.Term{domain(deep), codomain(x)(deep + 1)}}
	}
}

func hidden(p part) part {
	return func(deep int) api.Term {
		t := p(deep)
		t.Hid = true
		return t
	}
}

func closed(p part) api.Term { return p(0) }
