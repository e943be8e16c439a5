package scope

import (
	"strings"

	"telamon/api"
	"telamon/prelude"
)

// key is a name as one module has it.
type key struct {
	module int
	name   string
}

// global is what a name means that is no local.
type global struct {
	name    string  // the global one
	home    *module // declares it
	ctor    bool
	private bool
}

// meaning is what a module knows by a name: a global; and whether it knows others, too, and a constructor among them.
type meaning struct {
	global
	twice, makes bool
}

// and is what the name means, if it means g, too.
func (m meaning) and(g global) meaning {
	m.twice = m.twice || m.name != g.name
	m.makes = m.makes || g.ctor
	return m
}

// names is what has been declared so far.
type names struct {
	declared map[key]global
	known    map[key]meaning // also what a module has opened
	modules  map[key]*module
	opened   map[pair]opened
	many     int // modules
}

func newNames() names {
	return names{declared: map[key]global{}, known: map[key]meaning{}, modules: map[key]*module{}, opened: map[pair]opened{}}
}

// newModule is m, by a number of its own.
func (n *names) newModule(m module) *module {
	m.number = n.many
	n.many++
	return &m
}

func (n *names) declareModule(m module) *module {
	out := n.newModule(m)
	n.modules[key{m.outer.number, m.name}] = out
	return out
}

// know: from now on m knows g by a name.
func (n *names) know(m *module, name string, g global) {
	k := key{m.number, name}
	was, ok := n.known[k]
	if !ok {
		was = meaning{global: g}
	}
	n.known[k] = was.and(g)
}

// declare: the module that is read declares a name, and knows it from now on.
func (s *scope) declare(name string, ctor bool) global {
	g := global{name: s.prefix() + name, home: s.module, ctor: ctor, private: s.secret}
	s.declared[key{s.number, name}] = g
	s.know(s.module, name, g)
	s.list = append(s.list, name)
	return g
}

func (s *scope) declarePrelude() {
	for _, d := range prelude.Decls() {
		s.declare(d.Name, false)
		for _, c := range d.Ctors {
			s.declare(c.Name, true)
		}
	}
}

// mean is what a name means that is no local's.
func (s *scope) mean(name string) (global, error) {
	if i := strings.LastIndex(name, dot); i >= 0 {
		return s.within(name[:i], name[i+len(dot):])
	}
	for m := s.module; m != nil; m = m.outer {
		known, ok := s.known[key{m.number, name}]
		if ok && known.twice {
			return global{}, twofold{known}
		}
		if ok {
			return known.global, nil
		}
	}
	return global{}, refusal{api.ErrScope}
}

// within is what a name means in the module of that path.
func (s *scope) within(path, name string) (global, error) {
	m := s.at(path)
	if m == nil {
		return global{}, refusal{api.ErrScope}
	}
	g, ok := s.declared[key{m.number, name}]
	if !ok || g.private && !m.around {
		return global{}, refusal{api.ErrScope}
	}
	return g, nil
}

// at is the module of a path: the innermost module around that has it tells it.
func (s *scope) at(path string) *module {
	steps := strings.Split(path, dot)
	for m := s.module; m != nil; m = m.outer {
		if found := s.follow(m, steps); found != nil {
			return found
		}
	}
	return nil
}

func (n *names) follow(m *module, steps []string) *module {
	for _, step := range steps {
		in := n.modules[key{m.number, step}]
		if in == nil || in.private && !m.around {
			return nil
		}
		m = in
	}
	return m
}
