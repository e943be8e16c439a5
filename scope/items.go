package scope

import "telamon/api"

// items resolves a module's items, in order.
func (s *scope) items(l []api.Stmt) error {
	for len(l) > 0 {
		many, err := s.item(l)
		if err != nil {
			return err
		}
		l = l[many:]
	}
	return nil
}

// item resolves the first of the items, with the clauses that are its own behind it, and tells how many these are.
func (s *scope) item(l []api.Stmt) (many int, err error) {
	switch st := &l[0]; st.Form {
	case api.SType:
		return s.function(l)
	case api.SClause:
		return 0, refused(st.At, api.ErrMissing)
	case api.SData:
		err = s.family(*st)
	case api.SPost:
		err = s.postulates(st.Sub)
	case api.SModule:
		err = s.inModule(*st)
	case api.SOpen:
		err = s.open(*st)
	case api.SPriv:
		err = s.inPrivate(*st)
	}
	return 1, err
}

// function resolves a type with its clauses, directly behind it. (One that is another's is left: there it has no type.)
func (s *scope) function(l []api.Stmt) (many int, err error) {
	st := l[0]
	if len(st.Names) != 1 || len(l) == 1 || l[1].Form != api.SClause {
		return 0, refused(st.At, api.ErrMissing)
	}
	types, err := s.signature(st, false)
	if err != nil {
		return 0, err
	}
	out, err := s.put(api.SDef, types[0])
	if err != nil {
		return 0, err
	}
	for many = 1; many < len(l) && isClauseOf(st.Names[0], l[many]); many++ {
		c, err := s.clause(l[many], out.Name)
		if err != nil {
			return 0, err
		}
		out.Sub = append(out.Sub, c)
	}
	s.out = append(s.out, out)
	return many, nil
}

func (s *scope) postulates(l []api.Stmt) error {
	for _, st := range l {
		types, err := s.signature(st, false)
		if err != nil {
			return err
		}
		for _, ty := range types {
			out, err := s.put(api.SPost, ty)
			if err != nil {
				return err
			}
			s.out = append(s.out, out)
		}
	}
	return nil
}

// family resolves a family, which is known in its constructors' types.
func (s *scope) family(st api.Stmt) error {
	if err := s.mayDeclare(st.At, st.Name); err != nil {
		return err
	}
	binds, end, err := s.binders(st.Binds)
	if err != nil {
		return err
	}
	ty := api.Stmt{Exp: st.Exp, At: st.At}
	if err = s.exp(&ty.Exp); err != nil {
		return err
	}
	ty.Names = []string{s.declare(st.Name, false).name}
	out, err := s.put(api.SData, ty)
	if err != nil {
		return err
	}
	out.Binds = append(out.Binds, binds...)
	for _, c := range st.Sub {
		types, err := s.signature(c, true)
		if err != nil {
			return err
		}
		out.Sub = append(out.Sub, types...)
	}
	end()
	s.out = append(s.out, out)
	return nil
}

// signature resolves a type and declares its names: it tells a type of each of them.
func (s *scope) signature(st api.Stmt, ctor bool) ([]api.Stmt, error) {
	if st.Form != api.SType {
		return nil, nil
	}
	if err := s.mayDeclare(st.At, st.Names...); err != nil {
		return nil, err
	}
	var out []api.Stmt
	for range max(1, len(st.Names)) { // without a name it may be wrong all the same
		ty := api.Stmt{Form: api.SType, Exp: st.Exp, At: st.At}
		if err := s.exp(&ty.Exp); err != nil {
			return nil, err
		}
		out = append(out, ty)
	}
	for i, name := range st.Names {
		out[i].Names = []string{s.declare(name, ctor).name}
	}
	return out[:len(st.Names)], nil
}

func (s *scope) mayDeclare(at int, names ...string) error {
	here := set{}
	for _, name := range names {
		if isDotted(name) {
			return refused(at, api.ErrToken)
		}
		if _, clash := s.declared[key{s.number, name}]; clash || here.has(name) {
			return refused(at, api.ErrClash)
		}
		here[name] = struct{}{}
	}
	return nil
}

// put is the statement of that form of what a type declares, within the parameters of all modules around.
func (s *scope) put(form int, ty api.Stmt) (api.Stmt, error) {
	if err := s.weigh(ty.At, s.weight); err != nil {
		return ty, err
	}
	return api.Stmt{Form: form, Name: ty.Names[0], Binds: copiedBinds(s.params), N: len(s.params), Exp: ty.Exp, At: ty.At}, nil
}
