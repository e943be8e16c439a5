package fix

import "telamon/api"

// meaning is what some parts of a row mean: fun applied to arg; or else the name of an operator (op), whose form begins at a part; or else that part itself.
type meaning struct {
	at       int
	op       *operator
	fun, arg *meaning
}

// same: the two would be written the same. (Each part stands in a meaning once, so that its place tells it.)
func same(a, b *meaning) bool {
	if a == b || a == nil || b == nil {
		return a == b
	}
	return a.at == b.at && sameName(a.op, b.op) && same(a.fun, b.fun) && same(a.arg, b.arg)
}

func sameName(a, b *operator) bool {
	if a == nil || b == nil {
		return a == b
	}
	return a.Name == b.Name
}

// applied is each of funs applied to each of args.
func applied(funs, args []*meaning) []*meaning {
	var l []*meaning
	for _, fun := range funs {
		for _, arg := range args {
			l = append(l, &meaning{at: fun.at, fun: fun, arg: arg})
		}
	}
	return l
}

// written is m as an expression of the row's parts.
func (r *row) written(m *meaning) api.Exp {
	part := r.parts[m.at]
	switch {
	case m.fun != nil:
		x := api.Exp{Form: api.XApp, At: part.At, Kids: []api.Exp{r.written(m.fun), r.written(m.arg)}}
		if arg := x.Kids[1]; arg.Form == api.XHid {
			x.Hid, x.Kids[1] = true, within(arg)
		}
		return x
	case m.op != nil:
		return api.Exp{Form: api.XName, Name: m.op.Name, At: part.At}
	}
	return part
}

// within is what stands in the braces of x.
func within(x api.Exp) api.Exp {
	if len(x.Kids) == 0 {
		return api.Exp{}
	}
	return x.Kids[0]
}
