package scope

import (
	"slices"
	"strings"

	"telamon/api"
)

const dot = "." // parts the names of a path

// module is what declares names. The prelude is one, too: it stands around the file, and the file around all others.
type module struct {
	number  int
	name    string
	outer   *module
	around  bool     // around the place that is read now
	private bool     // known by its path only where outer is around
	secret  bool     // the place that is read now is in a private block of its items
	total   int      // how many parameters it and the modules around it have
	weight  int      // how many expressions these are
	list    []string // the names that it declares, in order
	path    string   // see prefix
}

const fileNumber = 1 // the prelude's is 0

// prefix stands in global names ahead of the names that m declares. It is made when it is first asked for: the paths of deep modules that declare nothing may come to more than all that is answered.
func (m *module) prefix() string {
	if m.path == "" && m.number > fileNumber {
		var steps []string
		for in := m; in.number > fileNumber; in = in.outer {
			steps = append(steps, in.name)
		}
		slices.Reverse(steps)
		m.path = strings.Join(steps, dot) + dot
	}
	return m.path
}

// shared is how many parameters have the modules that are around m, and around the place that is read now.
func (m *module) shared() int {
	for !m.around {
		m = m.outer
	}
	return m.total
}

// inModule resolves a module: its parameters, and within them its items. It is known from its items on.
func (s *scope) inModule(st api.Stmt) error {
	if err := s.mayDeclareModule(st); err != nil {
		return err
	}
	before := s.exps
	params, end, err := s.binders(st.Binds)
	if err != nil {
		return err
	}
	outer := s.module
	s.module = s.declareModule(module{
		name: st.Name, outer: outer, private: outer.secret, around: true,
		total: outer.total + len(params), weight: outer.weight + s.exps - before,
	})
	s.params = append(s.params, params...)
	err = s.items(st.Sub)
	s.params = s.params[:outer.total]
	s.module.around = false
	s.module = outer
	end()
	return err
}

func (s *scope) mayDeclareModule(st api.Stmt) error {
	if isDotted(st.Name) {
		return refused(st.At, api.ErrToken)
	}
	if _, clash := s.modules[key{s.number, st.Name}]; clash {
		return refused(st.At, api.ErrClash)
	}
	return nil
}

// inPrivate resolves the items of a private block.
func (s *scope) inPrivate(st api.Stmt) error {
	was := s.secret
	s.secret = true
	err := s.items(st.Sub)
	s.secret = was
	return err
}
