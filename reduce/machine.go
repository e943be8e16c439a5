package reduce

import (
	"telamon/api"
	"telamon/sig"
)

const maxIndex = 1 << 30 // of what term.Check takes

// machine finds weak head normal forms, one at a time. It goes down by no calls of its own, however deep a look at an x leads: who waits for a value stands in a list.
type machine struct {
	sig      *sig.Sig
	fuel     int
	room     int // how many parts a normal form may still have
	deep     int // how many binders were gone under
	numbers  int // how many cells have one
	meanings map[string]*meaning
	families map[string]*family
	waiting  []func(value) // each is told once
	state
}

// state is a term on its way: a head and its row.
type state struct {
	head
	row    *row
	around load   // of the rows at whose head it stands, where it is what a variable there stands for
	peak   weight // how great it was at the most
}

func newMachine(s *sig.Sig, fuel int) *machine {
	return &machine{sig: s, fuel: fuel, room: api.MaxTerm, meanings: map[string]*meaning{}, families: map[string]*family{}}
}

// valueOf answers the weak head normal form of c.
func (m *machine) valueOf(c *cell) *value {
	if c.value == nil {
		m.seek(c, load{})
	}
	for len(m.waiting) > 0 {
		for m.move() {
		}
		m.tell(value{head: m.head, args: m.row})
	}
	m.limit(c.peak) // it may have been found within fewer binders
	return c.value
}

// seek lets the machine go on with c, as the head of the row around; the state that it leaves waits for c's value.
func (m *machine) seek(c *cell, around load) {
	w := wait{m, c, m.state}
	m.waiting = append(m.waiting, w.told)
	m.state = state{head: head{closure: c.closure}, around: around, peak: c.weight}
}

// tell tells a value to the last one that waits.
func (m *machine) tell(v value) {
	last := len(m.waiting) - 1
	told := m.waiting[last]
	m.waiting[last] = nil
	m.waiting = m.waiting[:last]
	told(v)
}

// wait is a state that was left to find the value of a cell.
type wait struct {
	machine *machine
	cell    *cell
	left    state
}

// told lets the cell have its value, and the machine take up the state again, where it was.
func (w wait) told(v value) {
	w.cell.value, w.cell.peak = &v, w.machine.peak
	w.machine.state = w.left
}

// move goes on at the head; false, if there is nothing to be done: the state is a weak head normal form.
func (m *machine) move() bool {
	part := 1
	switch m.code.Form {
	case api.TApp:
		m.row = m.row.with(m.kid(1), m.code.Hid)
		m.code = m.code.kids[0]
		return true
	case api.TVar:
		return m.enter()
	case api.TLam:
		return m.beta()
	case api.TConst:
		return m.delta() || m.eliminate()
	case api.TSnd:
		part++
		fallthrough
	case api.TFst:
		return m.project(part)
	}
	return false
}

// enter goes on with what a variable stands for.
func (m *machine) enter() bool {
	c := m.find(m.code.N)
	if c == nil {
		return false
	}
	if c.value == nil {
		m.seek(c, m.row.whole().and(m.around))
		return true
	}
	m.weighed(c.peak)
	m.head, m.row = c.value.head, c.value.args.ahead(m.row)
	return true
}

func (m *machine) beta() bool {
	if m.row == nil {
		return false
	}
	m.spend()
	m.become(closure{m.env.with(m.row.arg), m.code.kids[1]}, m.row.rest)
	return true
}

func (m *machine) delta() bool {
	def := m.meaning(m.code)
	if !def.unfolds() {
		return false
	}
	m.spend()
	m.become(closure{code: def.body()}, m.row)
	return true
}

// eliminate makes the step iota: it goes on with the method of the constructor that an eliminator's x comes to.
func (m *machine) eliminate() bool {
	e := m.meaning(m.code)
	if !e.eliminates() {
		return false
	}
	at := m.row.from(e.family.ahead())
	if at == nil {
		return false
	}
	if m.look(at.arg) {
		return true
	}
	k, ok := m.built(at.arg.value, e.family)
	if !ok {
		return false
	}
	m.spend()
	m.become(closure{e.family.scope(m.row, at.arg.value.args), e.rule(k)}, at.rest)
	return true
}

// project goes on with a part of a pair: 1, 2.
func (m *machine) project(part int) bool {
	if m.of == nil {
		m.of = m.kid(0)
	}
	if m.look(m.of) {
		return true
	}
	pair := m.of.value
	if pair.code.Form != api.TPair || pair.args != nil {
		return false
	}
	m.spend()
	m.become(closure{pair.env, pair.code.kids[part]}, m.row)
	return true
}

// look tells whether the machine must go on with c, since its value is not found yet.
func (m *machine) look(c *cell) bool {
	if c.value == nil {
		m.seek(c, load{})
		return true
	}
	m.limit(c.peak)
	return false
}

// spend takes one step's fuel.
func (m *machine) spend() {
	if m.fuel <= 0 {
		giveUp(api.ErrFuel)
	}
	m.fuel--
}

// become puts another head and row in the place of the state's: a step is made.
func (m *machine) become(c closure, r *row) {
	m.head, m.row = head{closure: c}, r
	m.weighed(c.weigh())
}

// weighed takes it down that the head is, or was on its way, of the weight w.
func (m *machine) weighed(w weight) {
	own := m.row.whole().on(w)
	m.peak = m.peak.most(own)
	m.limit(m.around.on(own))
}

// limit gives up, if a term of the weight w is more than term.Check takes.
func (m *machine) limit(w weight) {
	if w.size > api.MaxTerm || w.high > api.MaxHigh || w.reach+m.deep > maxIndex {
		giveUp(api.ErrLong)
	}
}
