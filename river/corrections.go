package river

import (
	"iter"
	"math/bits"
	"slices"
)

// set is a set of points, each of which is a bit.
type set uint

func (s set) has(at int) bool { return s>>at&1 == 1 }

func (s set) many() int { return bits.OnesCount(uint(s)) }

// list returns the points of a set, ascending.
func (s set) list() (list []int) {
	for at := range bits.Len(uint(s)) {
		if s.has(at) {
			list = append(list, at)
		}
	}
	return list
}

// before reports whether a set has fewer points than another one, or as many that come before it.
func (s set) before(other set) bool {
	if s.many() != other.many() {
		return s.many() < other.many()
	}
	return slices.Compare(s.list(), other.list()) < 0
}

// best returns the first one of several things than which no other one is better.
func best[T any](things iter.Seq[T], better func(a, b T) bool) T {
	var found T
	first := true
	for x := range things {
		if first || better(x, found) {
			found, first = x, false
		}
	}
	return found
}

// corrections yields all corrections. It is enough to look at each two points that keep their heights: with no conflict
// between them, and none of them out of reach, each other point can be as low as those below it allow.
func (l looked) corrections() iter.Seq[set] {
	return func(yield func(set) bool) {
	sets:
		for s := range set(1) << len(l.points) {
			for a := range l.points {
				if s.has(a) {
					continue
				}
				if l.outOfReach(a) {
					continue sets
				}
				for b := range a {
					if !s.has(b) && l.conflict(a, b) {
						continue sets
					}
				}
			}
			if !yield(s) {
				return
			}
		}
	}
}
