package gram_test

import (
	"reflect"
	"strconv"
	"strings"

	"telamon/api"
)

// place is where something begins, as a text; what fields it has beside those of its form is told behind it.
func place(at int, rest any) string {
	if reflect.ValueOf(rest).IsZero() {
		return "@" + strconv.Itoa(at)
	}
	return "@" + strconv.Itoa(at) + "?"
}

// show is an expression as a text: each form's word, the place, the binders, the kids.
func show(x api.Exp) string {
	word := []string{"-", "raw", x.Name, "Set", "_", "app", "lam", "pi", "sigma", "let " + x.Name, "pair", "fst", "snd", "hid", "local", "()"}[x.Form]
	if x.Form == api.XSet {
		word += strconv.Itoa(x.N)
	}
	rest := x
	rest.Form, rest.At, rest.Kids = 0, 0, nil
	switch x.Form {
	case api.XName, api.XLet:
		rest.Name = ""
	case api.XSet:
		rest.N = 0
	case api.XLam, api.XPi, api.XSigma:
		rest.Binds = nil
	}
	word += place(x.At, rest)
	for _, b := range x.Binds {
		word += "[" + showBind(b) + "]"
	}
	if len(x.Kids) == 0 {
		return word
	}
	var l []string
	for _, k := range x.Kids {
		l = append(l, show(k))
	}
	return word + "(" + strings.Join(l, " ") + ")"
}

func showBind(b api.Bind) string {
	out := b.Name
	if b.Hid {
		out = "{" + out + "}"
	}
	if b.Type.Form != 0 || !reflect.ValueOf(b.Type).IsZero() {
		out += ":" + show(b.Type)
	}
	return out
}

// showStmt is a statement as a text: the form's word, the place, what it has of its own.
func showStmt(s api.Stmt) string {
	rest := s
	rest.Form, rest.At = 0, 0
	var own string
	switch s.Form {
	case api.SType:
		own = strings.Join(s.Names, " ") + " : " + show(s.Exp)
		rest.Names, rest.Exp = nil, api.Exp{}
	case api.SClause:
		own = show(s.Left)
		if s.Exp.Form != 0 {
			own += " = " + show(s.Exp)
			rest.Exp = api.Exp{}
		}
		rest.Left = api.Exp{}
	case api.SData:
		own = s.Name + showBinds(s.Binds) + " : " + show(s.Exp) + showStmts(s.Sub)
		rest.Name, rest.Binds, rest.Exp, rest.Sub = "", nil, api.Exp{}, nil
	case api.SPost, api.SPriv:
		own = showStmts(s.Sub)
		rest.Sub = nil
	case api.SFix:
		own = "infix" + s.Assoc + " " + strconv.Itoa(s.N) + " " + strings.Join(s.Names, " ")
		rest.Assoc, rest.N, rest.Names = "", 0, nil
	case api.SModule:
		own = s.Name + showBinds(s.Binds) + showStmts(s.Sub)
		rest.Name, rest.Binds, rest.Sub = "", nil, nil
	case api.SOpen:
		own = s.Name + map[bool]string{true: " only"}[s.Only] + showNames(" +", s.Using) + showNames(" -", s.Hiding)
		for _, r := range s.Renaming {
			own += " " + r[0] + ">" + r[1]
		}
		rest.Name, rest.Only, rest.Using, rest.Hiding, rest.Renaming = "", false, nil, nil, nil
	}
	word := []string{"-", "type", "clause", "data", "post", "fix", "module", "open", "priv", "def"}[s.Form]
	return word + place(s.At, rest) + strings.TrimRight(" "+strings.TrimPrefix(own, " "), " ")
}

func showNames(mark string, l []string) string {
	if len(l) == 0 {
		return ""
	}
	return mark + strings.Join(l, mark)
}

func showBinds(l []api.Bind) string {
	out := ""
	for _, b := range l {
		out += " [" + showBind(b) + "]"
	}
	return out
}

func showStmts(l []api.Stmt) string {
	if len(l) == 0 {
		return ""
	}
	return " { " + showAll(l) + " }"
}

func showAll(l []api.Stmt) string {
	var out []string
	for _, s := range l {
		out = append(out, showStmt(s))
	}
	return strings.Join(out, " ; ")
}
