package fix

import "telamon/api"

// row is parts that stand side by side, and how what they mean is found.
type row struct {
	parts  []api.Exp
	places map[string][]int // of each name in it that is a part of operators
	lone   []bool           // whether a part is an atom by itself
	form   finder
}

func newRow(g *grammar, parts []api.Exp) *row {
	r := &row{parts: parts, places: map[string][]int{}}
	var names []string
	for i, x := range parts {
		isPart := g.isPart(x)
		r.lone = append(r.lone, !isPart && x.Form != api.XHid)
		if !isPart {
			continue
		}
		if len(r.places[x.Name]) == 0 {
			names = append(names, x.Name)
		}
		r.places[x.Name] = append(r.places[x.Name], i)
	}
	r.form = r.forms(g.operatorsOf(names, r.places))
	return r
}

// any is r.form for those that are made ahead of it.
func (r *row) any(from, to int) []*meaning { return r.form(from, to) }

// stands: is it that part of operators?
func (r *row) stands(name string, at int) bool {
	return r.parts[at].Form == api.XName && r.parts[at].Name == name
}

// simple finds atoms and applications.
func (r *row) simple(round []*operator) finder {
	var shapes []finder
	for _, op := range round {
		shapes = append(shapes, r.shape(op, nothing, nothing))
	}
	shape := either(shapes...)
	atom := func(from, to int) []*meaning {
		if to == from+1 && r.lone[from] {
			return []*meaning{{at: from}}
		}
		return shape(from, to)
	}
	return r.applications(atom)
}

// applications finds atoms, and what stands as an application of them.
func (r *row) applications(atom finder) finder {
	var find finder
	find = remembered(func(from, to int) []*meaning {
		f := newFinds()
		f.add(atom(from, to))
		for at := from + 1; at < to; at++ {
			if args := r.argument(atom, at, to); len(args) > 0 {
				f.add(applied(find(from, at), args))
			}
		}
		return f.all()
	})
	return find
}

// argument finds what may stand behind a function.
func (r *row) argument(atom finder, from, to int) []*meaning {
	if to == from+1 && r.parts[from].Form == api.XHid {
		return []*meaning{{at: from}}
	}
	return atom(from, to)
}

// shape finds an operator's forms, with those operands ahead and behind.
func (r *row) shape(op *operator, ahead, behind finder) finder {
	begun := r.first(op, ahead)
	for i, name := range op.Parts[1:] {
		begun = r.next(begun, op.Parts[i], name)
	}
	if op.Right {
		begun = r.onward(begun, op.Parts[len(op.Parts)-1], behind)
	}
	return begun
}

// first finds an operator's form up to its first part.
func (r *row) first(op *operator, ahead finder) finder {
	return r.upTo(op.Parts[0], func(from, to int) []*meaning {
		name := []*meaning{{at: from, op: op}}
		if !op.Left && from == to-1 {
			return name
		}
		if op.Left && from < to-1 {
			return applied(name, ahead(from, to-1))
		}
		return nil
	})
}

// next finds what begun finds up to a part, then a form, then the next part.
func (r *row) next(begun finder, part, next string) finder {
	full := r.onward(begun, part, r.any)
	return r.upTo(next, func(from, to int) []*meaning { return full(from, to-1) })
}

// upTo is a finder of what ends with that part.
func (r *row) upTo(part string, find finder) finder {
	find = remembered(find)
	return func(from, to int) []*meaning {
		if !r.stands(part, to-1) {
			return nil
		}
		return find(from, to)
	}
}

// onward finds what begun finds up to a part, applied to what behind finds behind it.
func (r *row) onward(begun finder, part string, behind finder) finder {
	return func(from, to int) []*meaning {
		f := newFinds()
		for _, at := range r.places[part] {
			if from > at || at+1 >= to {
				continue
			}
			if funs := begun(from, at+1); len(funs) > 0 {
				f.add(applied(funs, behind(at+1, to)))
			}
		}
		return f.all()
	}
}
