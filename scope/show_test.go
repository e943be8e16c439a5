package scope_test

import (
	"reflect"
	"strconv"
	"strings"

	"telamon/api"
)

// place is where something begins, as a text; what fields it has beside those of its form is told behind it.
func place(at int, rest any) string {
	if reflect.ValueOf(rest).IsZero() {
		return "@" + strconv.Itoa(at)
	}
	return "@" + strconv.Itoa(at) + "?"
}

func setWord(n int) string {
	if n == -1 {
		return "Set"
	}
	return "Set" + strconv.Itoa(n)
}

// word is the form of an expression as a text.
func word(x api.Exp) string {
	words := []string{"-", "raw", x.Name, setWord(x.N), "_", "app", "lam", "pi", "sigma", "let " + x.Name, "pair", "fst", "snd", "hid", "$" + strconv.Itoa(x.N), "()"}
	if x.Form < 0 || x.Form >= len(words) {
		return "form" + strconv.Itoa(x.Form)
	}
	if x.Form == api.XApp && x.Hid {
		return "app!"
	}
	return words[x.Form]
}

// show is an expression as a text: each form's word, the place, the binders, the kids.
func show(x api.Exp) string {
	rest := x
	rest.Form, rest.At = 0, 0
	switch x.Form {
	case api.XRaw, api.XPair, api.XFst, api.XSnd, api.XHid:
		rest.Kids = nil
	case api.XName:
		rest.Name = ""
	case api.XSet, api.XLocal:
		rest.N = 0
	case api.XApp:
		rest.Kids, rest.Hid = nil, false
	case api.XLam, api.XPi, api.XSigma:
		rest.Binds, rest.Kids = nil, nil
	case api.XLet:
		rest.Name, rest.Kids = "", nil
	}
	out := word(x) + place(x.At, rest)
	for _, b := range x.Binds {
		out += "[" + showBind(b) + "]"
	}
	if len(x.Kids) == 0 {
		return out
	}
	var l []string
	for _, k := range x.Kids {
		l = append(l, show(k))
	}
	return out + "(" + strings.Join(l, " ") + ")"
}

func showBind(b api.Bind) string {
	out := b.Name
	if b.Hid {
		out = "{" + out + "}"
	}
	if !reflect.ValueOf(b.Type).IsZero() {
		out += ":" + show(b.Type)
	}
	return out
}

// plain is an expression as a short text, without places: f a is (f a), f {a} is (f {a}).
func plain(x api.Exp) string {
	switch x.Form {
	case api.XApp:
		arg := plain(x.Kids[1])
		if x.Hid {
			arg = "{" + arg + "}"
		}
		return "(" + plain(x.Kids[0]) + " " + arg + ")"
	case api.XLet:
		return "(let " + x.Name + " : " + plain(x.Kids[0]) + " = " + plain(x.Kids[1]) + " in " + plain(x.Kids[2]) + ")"
	case api.XPair:
		return "(" + plain(x.Kids[0]) + " , " + plain(x.Kids[1]) + ")"
	}
	l := []string{word(x)}
	for _, b := range x.Binds {
		name := b.Name
		if b.Type.Form != 0 {
			name += ":" + plain(b.Type)
		}
		if b.Hid {
			name = "{" + name + "}"
		}
		l = append(l, name)
	}
	for _, k := range x.Kids {
		l = append(l, plain(k))
	}
	if len(l) == 1 {
		return l[0]
	}
	return "(" + strings.Join(l, " ") + ")"
}

// showStmts is statements as a text: each field that is not zero, whatever form it is of.
func showStmts(l []api.Stmt) string {
	var out []string
	for _, s := range l {
		out = append(out, showStmt(s))
	}
	return strings.Join(out, "; ")
}

func showStmt(s api.Stmt) string {
	form := strconv.Itoa(s.Form)
	if s.Form >= 0 && s.Form < 10 {
		form = []string{"none", "type", "clause", "data", "post", "fix", "module", "open", "priv", "def"}[s.Form]
	}
	out := form + "@" + strconv.Itoa(s.At)
	if s.N != 0 {
		out += " #" + strconv.Itoa(s.N)
	}
	for _, x := range []struct {
		sign string
		l    []string
	}{{"name ", []string{s.Name}}, {"assoc ", []string{s.Assoc}}, {"", s.Names}, {"using ", s.Using}, {"hiding ", s.Hiding}} {
		for _, name := range x.l {
			if name != "" {
				out += " " + x.sign + name
			}
		}
	}
	for _, b := range s.Binds {
		out += " [" + showBind(b) + "]"
	}
	if !reflect.ValueOf(s.Left).IsZero() {
		out += " left " + show(s.Left)
	}
	if !reflect.ValueOf(s.Exp).IsZero() {
		out += " exp " + show(s.Exp)
	}
	if s.Only {
		out += " only"
	}
	for _, r := range s.Renaming {
		out += " " + r[0] + ">" + r[1]
	}
	if len(s.Sub) > 0 {
		out += " {" + showStmts(s.Sub) + "}"
	}
	return out
}

// brief is what Resolve answers as a short text, without places: def f <A:Set> : $0 {1 (f $0) = $0} is a definition with one parameter, and one clause of one variable.
func brief(l []api.Stmt) string {
	var out []string
	for _, s := range l {
		out = append(out, briefOne(s))
	}
	return strings.Join(out, "; ")
}

func briefOne(s api.Stmt) string {
	if s.Form == api.SClause {
		out := strconv.Itoa(s.N) + " " + plain(s.Left)
		if s.Exp.Form != 0 {
			out += " = " + plain(s.Exp)
		}
		return out
	}
	words := map[int]string{api.SType: "type", api.SDef: "def", api.SPost: "post", api.SData: "data"}
	l := append([]string{words[s.Form]}, s.Names...)
	if s.Name != "" {
		l = append(l, s.Name)
	}
	if len(s.Binds) > 0 {
		var binds []string
		for i, b := range s.Binds {
			text := plain(api.Exp{Form: api.XLam, Binds: []api.Bind{b}})
			text = strings.TrimSuffix(strings.TrimPrefix(text, "(lam "), ")")
			if i == s.N {
				text = "| " + text
			}
			binds = append(binds, text)
		}
		l = append(l, "<"+strings.Join(binds, " ")+">")
	}
	l = append(l, ":", plain(s.Exp))
	if len(s.Sub) > 0 {
		l = append(l, "{"+brief(s.Sub)+"}")
	}
	return strings.Join(l, " ")
}
