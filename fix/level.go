package fix

import (
	"cmp"
	"slices"
)

// tighter is the order of operators by how they bind, the tightest first, those of a kind side by side.
func tighter(a, b *operator) int {
	return cmp.Or(cmp.Compare(b.N, a.N), cmp.Compare(a.kind, b.kind))
}

// forms finds all forms of a row with these operators, in the order of tighter.
func (r *row) forms(ops []*operator) finder {
	var round, open []*operator
	for _, op := range ops {
		if op.kind == closed {
			round = append(round, op)
		} else {
			open = append(open, op)
		}
	}
	form := r.simple(round)
	for len(open) > 0 {
		n := alike(open, func(op *operator) int { return op.N })
		form = r.level(open[:n], form)
		open = open[n:]
	}
	return form
}

// alike is how many at the beginning of l are alike in what of says.
func alike(l []*operator, of func(*operator) int) int {
	n := slices.IndexFunc(l, func(op *operator) bool { return of(op) != of(l[0]) })
	if n < 0 {
		return len(l)
	}
	return n
}

// level finds what above finds (all that binds tighter), and the forms of the operators of one N.
func (r *row) level(ops []*operator, above finder) finder {
	all := []finder{above}
	for len(ops) > 0 {
		n := alike(ops, func(op *operator) int { return op.kind })
		all = append(all, r.kind(ops[:n], above))
		ops = ops[n:]
	}
	return either(all...)
}

// kind finds the forms of the operators of one N and one kind. Their operands are what above finds, and on the side that the kind tells those forms, too.
func (r *row) kind(ops []*operator, above finder) finder {
	var forms finder
	same := either(above, func(from, to int) []*meaning { return forms(from, to) })
	ahead, behind := above, above
	switch ops[0].kind {
	case infixLeft, postfix:
		ahead = same
	case infixRight, prefix:
		behind = same
	}
	var shapes []finder
	for _, op := range ops {
		shapes = append(shapes, r.shape(op, ahead, behind))
	}
	forms = either(shapes...)
	return forms
}
