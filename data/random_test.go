package data_test

import (
	"math/rand"
	"testing"

	"telamon/api"
	"telamon/data"
	"telamon/elim"
	"telamon/kernel"
)

// atRandom holds so many families against the second reading, and counts what was told.
func atRandom(t *testing.T, seed int64, many, wild, spoils int) map[api.Errno]int {
	t.Helper()
	s := signature(t)
	m := &maker{Rand: rand.New(rand.NewSource(seed))}
	count := map[api.Errno]int{}
	for range many {
		d := m.family(wild)
		for range spoils {
			d = m.spoilt(d)
		}
		if !t.Failed() {
			count[held(t, s, d, 5000)]++
		}
	}
	return count
}

// few fails, if one of these was told less often than it should be.
func few(t *testing.T, count, least map[api.Errno]int) {
	t.Helper()
	for e, n := range least {
		if count[e] < n {
			t.Errorf("too few: %v", count)
			return
		}
	}
}

func TestP1001AtRandom(t *testing.T) {
	few(t, atRandom(t, 1, 600, 0, 0), map[api.Errno]int{api.OK: 500})
	few(t, atRandom(t, 2, 1500, 25, 0), map[api.Errno]int{api.OK: 800, api.ErrPositive: 200, api.ErrUniverse: 80})
}

func TestP1001SpoiltAtRandom(t *testing.T) {
	few(t, atRandom(t, 3, 3000, 10, 1), map[api.Errno]int{api.OK: 100, api.ErrVar: 50, api.ErrConst: 50, api.ErrData: 300, api.ErrSort: 50, api.ErrType: 100, api.ErrPi: 50, api.ErrPositive: 50, api.ErrUniverse: 20, api.ErrLevels: 50})
}

// Of a family that is let in, the types of constructors and eliminator are types where it stands, too.
func TestP1002AtRandom(t *testing.T) {
	s := signature(t)
	m := &maker{Rand: rand.New(rand.NewSource(4))}
	taken := 0
	for range 800 {
		d := m.family(10)
		own := s.Copy()
		if data.Add(own, d, much) != api.OK {
			continue
		}
		taken++
		for _, k := range d.Ctors {
			if _, e := kernel.Sort(own, d.Levels, nil, k.Type, much); e != api.OK {
				t.Errorf("P1002: %s: %s: %v", showDecl(d), k.Name, e)
			}
		}
		ty, e := elim.Type(d)
		if _, e2 := kernel.Sort(own, d.Levels+1, nil, ty, much); e != api.OK || e2 != api.OK {
			t.Errorf("P1002: %s: its eliminator: %v, %v", showDecl(d), e, e2)
		}
	}
	if taken < 300 {
		t.Errorf("too few: %d", taken)
	}
}
