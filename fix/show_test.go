package fix_test

import (
	"reflect"
	"strconv"
	"strings"

	"telamon/api"
)

// place is where something begins, as a text; what fields it has beside those of its form is told behind it.
func place(at int, rest any) string {
	if reflect.ValueOf(rest).IsZero() {
		return "@" + strconv.Itoa(at)
	}
	return "@" + strconv.Itoa(at) + "?"
}

// word is the form of an expression as a text.
func word(x api.Exp) string {
	words := []string{"-", "raw", x.Name, "Set" + strconv.Itoa(x.N), "_", "app", "lam", "pi", "sigma", "let " + x.Name, "pair", "fst", "snd", "hid", "local" + strconv.Itoa(x.N), "()"}
	if x.Form < 0 || x.Form >= len(words) {
		return "form" + strconv.Itoa(x.Form)
	}
	if x.Form == api.XApp && x.Hid {
		return "app!"
	}
	return words[x.Form]
}

// show is an expression as a text: each form's word, the place, the binders, the kids.
func show(x api.Exp) string {
	rest := x
	rest.Form, rest.At = 0, 0
	switch x.Form {
	case api.XRaw, api.XPair, api.XFst, api.XSnd, api.XHid:
		rest.Kids = nil
	case api.XName:
		rest.Name = ""
	case api.XSet, api.XLocal:
		rest.N = 0
	case api.XApp:
		rest.Kids, rest.Hid = nil, false
	case api.XLam, api.XPi, api.XSigma:
		rest.Binds, rest.Kids = nil, nil
	case api.XLet:
		rest.Name, rest.Kids = "", nil
	}
	out := word(x) + place(x.At, rest)
	for _, b := range x.Binds {
		out += "[" + showBind(b) + "]"
	}
	if len(x.Kids) == 0 {
		return out
	}
	var l []string
	for _, k := range x.Kids {
		l = append(l, show(k))
	}
	return out + "(" + strings.Join(l, " ") + ")"
}

func showBind(b api.Bind) string {
	out := b.Name
	if b.Hid {
		out = "{" + out + "}"
	}
	if !reflect.ValueOf(b.Type).IsZero() {
		out += ":" + show(b.Type)
	}
	return out
}

// plain is an expression as a short text, without places: f a is (f a), f {a} is (f {a}).
func plain(x api.Exp) string {
	switch x.Form {
	case api.XApp:
		arg := plain(x.Kids[1])
		if x.Hid {
			arg = "{" + arg + "}"
		}
		return "(" + plain(x.Kids[0]) + " " + arg + ")"
	case api.XLet:
		return "(let " + x.Name + " : " + plain(x.Kids[0]) + " = " + plain(x.Kids[1]) + " in " + plain(x.Kids[2]) + ")"
	case api.XPair:
		return "(" + plain(x.Kids[0]) + " , " + plain(x.Kids[1]) + ")"
	}
	l := []string{word(x)}
	for _, b := range x.Binds {
		name := b.Name
		if b.Type.Form != 0 {
			name += ":" + plain(b.Type)
		}
		if b.Hid {
			name = "{" + name + "}"
		}
		l = append(l, name)
	}
	for _, k := range x.Kids {
		l = append(l, plain(k))
	}
	if len(l) == 1 {
		return l[0]
	}
	return "(" + strings.Join(l, " ") + ")"
}

// showStmts is statements as a text: each field that is not zero, whatever form it is of.
func showStmts(l []api.Stmt) string {
	var out []string
	for _, s := range l {
		out = append(out, showStmt(s))
	}
	return strings.Join(out, "; ")
}

func showStmt(s api.Stmt) string {
	form := strconv.Itoa(s.Form)
	if s.Form >= 0 && s.Form < 10 {
		form = []string{"none", "type", "clause", "data", "post", "fix", "module", "open", "priv", "def"}[s.Form]
	}
	out := form + "@" + strconv.Itoa(s.At)
	if s.N != 0 {
		out += " #" + strconv.Itoa(s.N)
	}
	for _, x := range []struct {
		sign string
		l    []string
	}{{"name ", []string{s.Name}}, {"assoc ", []string{s.Assoc}}, {"", s.Names}, {"using ", s.Using}, {"hiding ", s.Hiding}} {
		for _, name := range x.l {
			if name != "" {
				out += " " + x.sign + name
			}
		}
	}
	for _, b := range s.Binds {
		out += " [" + showBind(b) + "]"
	}
	if !reflect.ValueOf(s.Left).IsZero() {
		out += " left " + show(s.Left)
	}
	if !reflect.ValueOf(s.Exp).IsZero() {
		out += " exp " + show(s.Exp)
	}
	if s.Only {
		out += " only"
	}
	for _, r := range s.Renaming {
		out += " " + r[0] + ">" + r[1]
	}
	if len(s.Sub) > 0 {
		out += " {" + showStmts(s.Sub) + "}"
	}
	return out
}

// showOps is operators as a text: `_+_ 6l [+]`.
func showOps(l []api.Op) string {
	var out []string
	for _, op := range l {
		sides := "[" + strings.Join(op.Parts, " ") + "]"
		if op.Left {
			sides = "<" + sides
		}
		if op.Right {
			sides += ">"
		}
		out = append(out, op.Name+" "+strconv.Itoa(op.N)+op.Assoc+" "+sides)
	}
	return strings.Join(out, "; ")
}
