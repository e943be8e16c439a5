package fix

// rows are a table: each name has one row, in the order in which the names came.
type rows[R any] struct {
	list   []*R
	places map[string]int
}

func newRows[R any]() *rows[R] { return &rows[R]{places: map[string]int{}} }

// find is the row of a name, or nil.
func (r *rows[R]) find(name string) *R {
	place, ok := r.places[name]
	if !ok {
		return nil
	}
	return r.list[place]
}

// begin is the row of a name, a new one if it has none.
func (r *rows[R]) begin(name string) *R {
	if r.find(name) == nil {
		r.places[name] = len(r.list)
		r.list = append(r.list, new(R))
	}
	return r.find(name)
}
