package scope

import (
	"slices"

	"telamon/api"
)

// pair is two modules: one that opens the other.
type pair struct{ by, of int }

// opened is what an opened module has brought by its own names: of the first names that it declares all but those that are left. (To go over all of them at each open would take long, where there are many.)
type opened struct {
	first int
	left  []string
}

// open lets the module that is read know what another one declares.
func (s *scope) open(st api.Stmt) error {
	m, renamed := s.at(st.Name), firsts(st.Renaming)
	if m == nil || !s.allPublic(m, st.Using, st.Hiding, renamed) {
		return refused(st.At, api.ErrScope)
	}
	hidden := setOf(st.Hiding)
	if st.Only {
		hidden = nil
		s.bringOnly(m, st.Using, setOf(renamed))
	} else {
		s.bringAll(m, setOf(st.Hiding, renamed))
	}
	for _, r := range st.Renaming {
		if !hidden.has(r[0]) {
			s.bring(m, r[0], r[1])
		}
	}
	return nil
}

func (s *scope) bringOnly(m *module, l []string, but set) {
	for _, name := range l {
		if !but.has(name) {
			s.bring(m, name, name)
		}
	}
}

func (s *scope) bringAll(m *module, but set) {
	which := pair{s.number, m.number}
	was := s.opened[which]
	now := opened{first: len(m.list)}
	for _, name := range slices.Concat(was.left, m.list[was.first:]) {
		if but.has(name) {
			now.left = append(now.left, name)
		} else {
			s.bring(m, name, name)
		}
	}
	s.opened[which] = now
}

// bring: the module that is read knows a name of m from now on, if m does not keep it for itself.
func (s *scope) bring(m *module, name, as string) {
	if g, ok := s.public(m, name); ok {
		s.know(s.module, as, g)
	}
}

func (n *names) public(m *module, name string) (global, bool) {
	g, ok := n.declared[key{m.number, name}]
	return g, ok && !g.private
}

func (n *names) allPublic(m *module, lists ...[]string) bool {
	for _, name := range slices.Concat(lists...) {
		if _, ok := n.public(m, name); !ok {
			return false
		}
	}
	return true
}

func firsts(l [][2]string) []string {
	var out []string
	for _, r := range l {
		out = append(out, r[0])
	}
	return out
}

// set is a set of names.
type set map[string]struct{}

func setOf(lists ...[]string) set {
	out := set{}
	for _, name := range slices.Concat(lists...) {
		out[name] = struct{}{}
	}
	return out
}

func (s set) has(name string) bool {
	_, ok := s[name]
	return ok
}
