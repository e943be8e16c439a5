package data_test

import (
	"fmt"

	"telamon/api"
)

// show writes a term, for what a test that fails tells.
func show(t api.Term) string {
	hid := ""
	if t.Hid {
		hid = "'"
	}
	switch t.Form {
	case api.TVar:
		return fmt.Sprint(t.N)
	case api.TMeta:
		return fmt.Sprint("?", t.N)
	case api.TSort:
		return fmt.Sprint("Set", t.Levels)
	case api.TConst:
		if len(t.Levels) > 0 {
			return fmt.Sprint(t.Name, t.Levels)
		}
		return t.Name
	}
	name := []string{"", "", "", "Π", "λ", "", "Σ", "pair", "fst", "snd"}
	if t.Form < 0 || t.Form >= len(name) {
		return fmt.Sprint("form ", t.Form)
	}
	out := "(" + name[t.Form] + hid
	for _, k := range t.Kids {
		out += " " + show(k)
	}
	return out + ")"
}

func shows(l []api.Term) []string {
	var out []string
	for _, t := range l {
		out = append(out, show(t))
	}
	return out
}
