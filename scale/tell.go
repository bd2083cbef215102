package scale

import (
	"iter"
	"slices"
)

// apart returns the points that tell two models apart.
func apart(a, b model) (points []int) {
	for p := range a.Heights {
		if a.cuts[p] != b.cuts[p] {
			points = append(points, p)
		}
	}
	return points
}

// alike reports whether the scale of another model is alike.
func (m model) alike(other model) bool { return m.cuts == other.cuts }

// anyAlike reports whether the scales of two of the models are alike.
func anyAlike(models []model) bool {
	for i, m := range models {
		if slices.ContainsFunc(models[:i], m.alike) {
			return true
		}
	}
	return false
}

// tell reports whether one of some points tells each two of the models apart: no two have the same cuts there.
func tell(models []model, points []int) bool {
	seen := map[cuts]bool{}
	for _, m := range models {
		seen[m.cuts.only(points)] = true
	}
	return len(seen) == len(models)
}

// lists yields all ascending lists of some of so many points, the shorter ones first, and of those that are as long the
// first ones first.
func lists(points int) iter.Seq[[]int] {
	return func(yield func([]int) bool) {
		var longer func(list []int, from, more int) bool
		longer = func(list []int, from, more int) bool {
			if more == 0 {
				return yield(slices.Clone(list))
			}
			for p := from; p < points; p++ {
				if !longer(append(list, p), p+1, more-1) {
					return false
				}
			}
			return true
		}
		for long := range points + 1 {
			if !longer(nil, 0, long) {
				return
			}
		}
	}
}
