package reduce

// The machine writes no term out on its way: it weighs what would be written, so that a term which would be too great is told.

// weight is how great a term would be: its parts, its height, its greatest free index (0: there is none, or it does not matter), the binders that were gone under aside; and of these the least number above all whose variables it has.
type weight struct{ size, high, reach, own int }

// most answers how great a and b are, each for itself.
func (a weight) most(b weight) weight {
	return weight{max(a.size, b.size), max(a.high, b.high), max(a.reach, b.reach), max(a.own, b.own)}
}

// load is what a row of TApps adds to its head: how many they are, and the parts of them and of their arguments. How high the arguments make the row, and their indices, were weighed when they came into it, and stay the same until they leave it.
type load struct{ apps, size int }

// on answers how great the row is with a head of the weight w.
func (l load) on(w weight) weight {
	return weight{w.size + l.size, w.high + l.apps, w.reach, w.own}
}

// and answers the load of both rows, one around the other.
func (l load) and(outer load) load { return load{l.apps + outer.apps, l.size + outer.size} }

// weigh answers how great the closure would be with what its variables stand for written into it.
func (c closure) weigh() weight {
	w := weight{size: c.code.size, high: c.code.high}
	slot, at := c.inner, 0
	for _, u := range c.code.uses() {
		for ; slot != nil && at < u.index; at++ {
			slot = slot.outer
		}
		x := weight{1, 1, u.index - c.count, 0}
		if slot != nil {
			x = slot.cell.weight
		}
		w.size += u.count * (x.size - 1)
		w.high = max(w.high, u.parts+x.high)
		w.reach = max(w.reach, u.binders+x.reach)
		w.own = max(w.own, x.own)
	}
	return w
}
