package scope

import "strings"

const nobody = "_" // binds a variable without a name

// locals tell of the binders around a place. Their table is seen by these closures alone.
type locals struct {
	deep  func() int                         // how many there are
	level func(name string) (n int, ok bool) // how many are around the innermost one of that name
	bind  func(name string) (end func())     // binds one more, further in, until its end
}

func newLocals() locals {
	count, levels := 0, map[string]int{}
	return locals{
		deep: func() int { return count },
		level: func(name string) (int, bool) {
			n, ok := levels[name]
			return n, ok
		},
		bind: func(name string) func() {
			leave := func() {}
			if name != nobody && !isDotted(name) {
				leave = taken(levels, name, count)
			}
			count++
			return func() {
				count--
				leave()
			}
		},
	}
}

// taken gives a name to the binder of that level, until its end: then it means what it meant ahead.
func taken(levels map[string]int, name string, level int) (end func()) {
	outer, hides := levels[name]
	levels[name] = level
	return func() {
		delete(levels, name)
		if hides {
			levels[name] = outer
		}
	}
}

func isDotted(name string) bool { return strings.Contains(name, dot) }
