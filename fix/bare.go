package fix

import (
	"slices"

	"telamon/api"
)

// bareStmt is s with the fields that its form has and nothing else. Names are new memory.
func bareStmt(s api.Stmt) api.Stmt {
	out := api.Stmt{Form: s.Form, At: s.At}
	switch s.Form {
	case api.SType:
		out.Names, out.Exp = slices.Clone(s.Names), s.Exp
	case api.SClause:
		out.Left, out.Exp = s.Left, s.Exp
	case api.SData:
		out.Name, out.Binds, out.Exp, out.Sub = s.Name, s.Binds, s.Exp, s.Sub
	case api.SPost, api.SPriv:
		out.Sub = s.Sub
	case api.SFix:
		out.Assoc, out.N, out.Names = s.Assoc, s.N, slices.Clone(s.Names)
	case api.SModule:
		out.Name, out.Binds, out.Sub = s.Name, s.Binds, s.Sub
	case api.SOpen:
		out.Name, out.Only, out.Using = s.Name, s.Only, slices.Clone(s.Using)
		out.Hiding, out.Renaming = slices.Clone(s.Hiding), slices.Clone(s.Renaming)
	case api.SDef:
		out.Name, out.N, out.Binds, out.Exp, out.Sub = s.Name, s.N, s.Binds, s.Exp, s.Sub
	}
	return out
}

// hasSub: there are statements within one of that form.
func hasSub(form int) bool {
	switch form {
	case api.SData, api.SPost, api.SModule, api.SPriv, api.SDef:
		return true
	}
	return false
}

// bareExp is x with the fields that its form has and nothing else.
func bareExp(x api.Exp) api.Exp {
	out := api.Exp{Form: x.Form, At: x.At}
	switch x.Form {
	case api.XName:
		out.Name = x.Name
	case api.XSet, api.XLocal:
		out.N = x.N
	case api.XApp:
		out.Hid, out.Kids = x.Hid, x.Kids
	case api.XLam, api.XPi, api.XSigma:
		out.Binds, out.Kids = x.Binds, x.Kids
	case api.XLet:
		out.Name, out.Kids = x.Name, x.Kids
	case api.XRaw, api.XPair, api.XFst, api.XSnd, api.XHid:
		out.Kids = x.Kids
	}
	return out
}
