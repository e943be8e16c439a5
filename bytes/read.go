package bytes

import (
	"slices"

	"telamon/api"
)

const (
	maxNumber = 1 << 30 // the greatest index: no other number of the form is greater
	maxShift  = 28      // of the last byte that a number up to maxNumber may have
)

// read answers what step reads, if write makes just b of it. So step need not find out whether what it reads is right, or written as it should be: it needs only come to an end.
func read[T any](b []byte, step func() T, write func(T) ([]byte, api.Errno)) (T, api.Errno) {
	var none T
	if len(b) > api.MaxBytes {
		return none, api.ErrLong
	}
	out, e := caught(step)
	if e != api.OK {
		return none, e
	}
	again, e := write(out)
	if e != api.OK || !slices.Equal(again, b) {
		return none, api.ErrByte
	}
	return out, api.OK
}

// caught answers what step answers, or ErrByte, if it gives up.
func caught[T any](step func() T) (out T, e api.Errno) {
	defer func() {
		if recover() != nil {
			e = api.ErrByte
		}
	}()
	return step(), api.OK
}

// giveUp leaves all steps at once, out to caught.
func giveUp() { panic(api.ErrByte) }

// reader is at the first byte of rest, within a term of that many terms around it.
type reader struct {
	rest []byte
	deep int
}

// take answers the next n bytes.
func (r *reader) take(n int) []byte {
	if n > len(r.rest) {
		giveUp()
	}
	b := r.rest[:n]
	r.rest = r.rest[n:]
	return b
}

func (r *reader) number() int {
	n, more := uint64(0), true
	for shift := 0; more; shift += 7 {
		b := r.take(1)[0]
		n |= uint64(b&127) << shift
		more = b > 127
		if n > maxNumber || shift > maxShift {
			giveUp()
		}
	}
	return int(n)
}

func (r *reader) flag() bool { return r.number() == 1 }

func (r *reader) name() string { return string(r.take(r.number())) }

func (r *reader) level() api.Level {
	return api.Level{N: r.number(), Vars: several(r.number(), r.variable)}
}

func (r *reader) variable() api.LVar {
	return api.LVar{Var: r.number(), Add: r.number()}
}

// term gives up where the term is too high, lest it go down as far as there are bytes.
func (r *reader) term() api.Term {
	r.deep++
	if r.deep > api.MaxHigh {
		giveUp()
	}
	t := api.Term{Form: r.number()}
	switch t.Form {
	case api.TVar, api.TMeta:
		t.N = r.number()
	case api.TSort:
		t.Levels = several(1, r.level)
	case api.TConst:
		t.Name = r.name()
		t.Levels = several(r.number(), r.level)
	case api.TPi, api.TLam, api.TApp:
		t.Hid = r.flag()
		fallthrough
	case api.TSigma:
		t.Kids = several(2, r.term)
	case api.TPair:
		t.Kids = several(3, r.term)
	case api.TFst, api.TSnd:
		t.Kids = several(1, r.term)
	}
	r.deep--
	return t
}

func (r *reader) decls() []api.Decl { return several(r.number(), r.decl) }

func (r *reader) decl() api.Decl {
	d := api.Decl{Kind: r.number(), Name: r.name(), Levels: r.number(), Type: r.term()}
	switch d.Kind {
	case api.DDef:
		d.Value = r.term()
	case api.DData:
		d.Params = r.number()
		d.Ctors = several(r.number(), r.ctor)
	}
	return d
}

func (r *reader) ctor() api.Ctor {
	return api.Ctor{Name: r.name(), Type: r.term()}
}

// several takes a step n times. The list grows only as steps are taken: n may be far greater than what there are bytes for.
func several[T any](n int, step func() T) []T {
	var out []T
	for range n {
		out = append(out, step())
	}
	return out
}
