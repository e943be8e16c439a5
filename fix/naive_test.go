package fix_test

import (
	"slices"

	"telamon/api"
)

// A second reading of the chapter's words: all that a row can mean is written down, in sets, by going over all ways to cut it. It is slow: rows are to be short.

// form is something that parts mean: an operator's form, or (op nil) an atom or an application.
type form struct {
	op *api.Op
	x  api.Exp
}

type naive struct {
	ops   []api.Op
	parts []api.Exp
	known map[[2]int][]form
}

// naiveRow is the texts of all that a row means.
func naiveRow(ops []api.Op, parts []api.Exp) []string {
	n := &naive{ops, parts, map[[2]int][]form{}}
	var l []string
	for _, f := range n.forms(0, len(parts)) {
		if s := show(f.x); !slices.Contains(l, s) {
			l = append(l, s)
		}
	}
	return l
}

func (n *naive) isPart(i int) bool {
	return n.parts[i].Form == api.XName && slices.ContainsFunc(n.ops, func(op api.Op) bool { return slices.Contains(op.Parts, n.parts[i].Name) })
}

func (n *naive) forms(i, j int) []form {
	if l, ok := n.known[[2]int{i, j}]; ok {
		return l
	}
	l := n.atoms(i, j)
	for k := i + 1; k < j; k++ {
		for _, head := range n.atoms(i, k) {
			for _, args := range n.arguments(k, j) {
				x := head.x
				for _, arg := range args {
					x = apply(x, arg)
				}
				l = append(l, form{nil, x})
			}
		}
	}
	for k := range n.ops {
		op := &n.ops[k]
		if !op.Left && !op.Right {
			continue
		}
		for _, args := range n.operator(op, i, j) {
			l = append(l, form{op, n.named(op, i, args)})
		}
	}
	n.known[[2]int{i, j}] = l
	return l
}

func apply(f, arg api.Exp) api.Exp {
	if arg.Form == api.XHid {
		return api.Exp{Form: api.XApp, At: f.At, Hid: true, Kids: []api.Exp{f, arg.Kids[0]}}
	}
	return api.Exp{Form: api.XApp, At: f.At, Kids: []api.Exp{f, arg}}
}

func (n *naive) named(op *api.Op, i int, args []api.Exp) api.Exp {
	x := api.Exp{Form: api.XName, Name: op.Name, At: n.parts[i].At}
	for _, arg := range args {
		x = apply(x, arg)
	}
	return x
}

// atoms is a part by itself, or closed operators.
func (n *naive) atoms(i, j int) []form {
	var l []form
	if j == i+1 && n.parts[i].Form != api.XHid && !n.isPart(i) {
		l = append(l, form{nil, n.parts[i]})
	}
	for k := range n.ops {
		op := &n.ops[k]
		if op.Left || op.Right {
			continue
		}
		for _, args := range n.operator(op, i, j) {
			l = append(l, form{nil, n.named(op, i, args)})
		}
	}
	return l
}

// arguments is all rows of one or more atoms and hidden parts.
func (n *naive) arguments(i, j int) [][]api.Exp {
	var l [][]api.Exp
	for k := i + 1; k <= j; k++ {
		var heads []api.Exp
		if n.parts[i].Form == api.XHid && k == i+1 {
			heads = append(heads, n.parts[i])
		}
		for _, f := range n.atoms(i, k) {
			heads = append(heads, f.x)
		}
		rests := [][]api.Exp{nil}
		if k < j {
			rests = n.arguments(k, j)
		}
		for _, head := range heads {
			for _, rest := range rests {
				l = append(l, append([]api.Exp{head}, rest...))
			}
		}
	}
	return l
}

// operator is the operands and inner forms of each form of that operator.
func (n *naive) operator(op *api.Op, i, j int) [][]api.Exp {
	if len(op.Parts) == 0 {
		return nil
	}
	if !op.Left {
		return n.behind(op, 0, i, j)
	}
	var l [][]api.Exp
	for k := i + 1; k < j; k++ {
		for _, f := range n.forms(i, k) {
			if !mayStand(op, f.op, true) {
				continue
			}
			for _, rest := range n.behind(op, 0, k, j) {
				l = append(l, append([]api.Exp{f.x}, rest...))
			}
		}
	}
	return l
}

// behind: that part stands at i; what is behind it.
func (n *naive) behind(op *api.Op, part, i, j int) [][]api.Exp {
	if i >= j || n.parts[i].Form != api.XName || n.parts[i].Name != op.Parts[part] {
		return nil
	}
	last := part == len(op.Parts)-1
	if last && !op.Right {
		if i+1 == j {
			return [][]api.Exp{nil}
		}
		return nil
	}
	var l [][]api.Exp
	if last {
		for _, f := range n.forms(i+1, j) {
			if i+1 < j && mayStand(op, f.op, false) {
				l = append(l, []api.Exp{f.x})
			}
		}
		return l
	}
	for k := i + 2; k < j; k++ {
		for _, f := range n.forms(i+1, k) {
			for _, rest := range n.behind(op, part+1, k, j) {
				l = append(l, append([]api.Exp{f.x}, rest...))
			}
		}
	}
	return l
}

// mayStand: may a form of the operator inner (nil: an atom or an application) be an operand of op, ahead of it or behind it?
func mayStand(op, inner *api.Op, ahead bool) bool {
	if inner == nil || inner.N > op.N {
		return true
	}
	if inner.N < op.N {
		return false
	}
	bothInfix := op.Left && op.Right && inner.Left && inner.Right
	bothPrefix := !op.Left && op.Right && !inner.Left && inner.Right
	bothPostfix := op.Left && !op.Right && inner.Left && !inner.Right
	return bothInfix && op.Assoc == "l" && inner.Assoc == "l" && ahead || bothInfix && op.Assoc == "r" && inner.Assoc == "r" && !ahead || bothPrefix || bothPostfix
}
