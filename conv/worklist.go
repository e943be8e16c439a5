package conv

// worklist is what is still to be asked. What came together waits in a channel of its own, from the left; what came last is taken first.
type worklist[T any] struct{ groups []chan T }

// put lets parts wait, ahead of all that waits already.
func (w *worklist[T]) put(parts ...T) {
	w.leave()
	group := make(chan T, len(parts))
	for _, p := range parts {
		group <- p
	}
	w.groups = append(w.groups, group)
}

// leave leaves the last group, if nothing waits in it any more: a term that goes on and on by its last part must not pile them up.
func (w *worklist[T]) leave() {
	if last := len(w.groups) - 1; last >= 0 && len(w.groups[last]) == 0 {
		w.groups = w.groups[:last]
	}
}

// next answers what is to be asked next; false, if there is nothing.
func (w *worklist[T]) next() (T, bool) {
	for last := len(w.groups) - 1; last >= 0; last-- {
		select {
		case part := <-w.groups[last]:
			return part, true
		default:
			w.groups = w.groups[:last]
		}
	}
	var none T
	return none, false
}
