package fix

import (
	"slices"

	"telamon/api"
)

const (
	blank  = '_' // stands in a name for what is to stand there
	plainN = 20  // how tight an operator binds of which nothing is said
)

// cut is what stands between a name's blanks, ahead of the first one and behind the last one.
func cut(name string) []string {
	var l []string
	from := 0
	for i, r := range name {
		if r == blank {
			l = append(l, name[from:i])
			from = i + 1
		}
	}
	return append(l, name[from:])
}

func isOperator(name string) bool { return len(cut(name)) > 1 }

// isBroken: an operator of which two blanks stand side by side, or which has nothing but blanks.
func isBroken(name string) bool {
	pieces := cut(name)
	last := len(pieces) - 1
	if last == 1 {
		return pieces[0] == "" && pieces[1] == ""
	}
	return last > 1 && slices.Contains(pieces[1:last], "")
}

// operatorOf is an operator as its name shows it.
func operatorOf(name string) api.Op {
	pieces := cut(name)
	last := len(pieces) - 1
	op := api.Op{Name: name, N: plainN, Left: pieces[0] == "", Right: pieces[last] == ""}
	for _, piece := range pieces {
		if piece != "" {
			op.Parts = append(op.Parts, piece)
		}
	}
	return op
}
