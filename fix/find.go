package fix

// finder finds what a row's parts mean, from a place on, up to another one.
type finder func(from, to int) []*meaning

type stretch struct{ from, to int }

// remembered is a finder that is asked once for each stretch. What it finds is not changed by those who are told.
func remembered(find finder) finder {
	known := map[stretch][]*meaning{}
	return func(from, to int) []*meaning {
		at := stretch{from, to}
		l, ok := known[at]
		if !ok {
			l = find(from, to)
			known[at] = l
		}
		return l
	}
}

func nothing(from, to int) []*meaning { return nil }

// either finds what one of several finds.
func either(l ...finder) finder {
	if len(l) == 0 {
		return nothing
	}
	return remembered(func(from, to int) []*meaning {
		f := newFinds()
		for _, find := range l {
			f.add(find(from, to))
		}
		return f.all()
	})
}

// enough: that a row means more than one thing is told by two of them.
const enough = 2

// finds collects meanings that differ, as many as are enough.
type finds struct {
	room chan *meaning
	last *meaning
}

func newFinds() *finds { return &finds{room: make(chan *meaning, enough)} }

// add puts in what differs from the last one, as long as there is room: so no two are the same.
func (f *finds) add(l []*meaning) {
	for _, m := range l {
		if same(m, f.last) {
			continue
		}
		select {
		case f.room <- m:
			f.last = m
		default:
			return
		}
	}
}

// all takes out what is there.
func (f *finds) all() []*meaning {
	var l []*meaning
	for {
		select {
		case m := <-f.room:
			l = append(l, m)
		default:
			return l
		}
	}
}
