package river

import (
	"iter"
	"slices"

	"hachure/api"
)

// place is a height at a point.
type place struct{ at, height int }

// costs is rivers that are looked at, the levels that are tried, and what places that were tried cost.
type costs struct {
	looked
	levels []int
	known  map[place]int
}

// costsOf returns the costs of rivers. A level is a height less the drop to the mouth, so it does not fall upwards. In the
// first ones of the least heights, all points at one level could be lowered, or raised, for less or to be before them,
// if that level were neither that of one's Height nor that of an end of one's room: so no other levels are tried.
func costsOf(l looked) costs {
	var levels []int
	for at, p := range l.points {
		room := l.room(at)
		levels = append(levels, p.Height-room.Lo, 0, room.Hi-room.Lo)
	}
	slices.Sort(levels)
	return costs{l, slices.Compact(levels), map[place]int{}}
}

// floor returns the least height that a point can have, if its Down has some height. Of the mouth it is 0.
func (c costs) floor(at, down int) int {
	if c.points[at].Down == api.RvMouth {
		return 0
	}
	return down + c.points[at].Least
}

// places yields the places of a point that are tried, if its Down has some height, the lower ones first.
func (c costs) places(at, down int) iter.Seq[place] {
	floor, room := c.floor(at, down), c.room(at)
	return func(yield func(place) bool) {
		for _, level := range c.levels {
			height := room.Lo + level
			if within(floor, room.Hi, height) && !yield(place{at, height}) {
				return
			}
		}
	}
}

// cost returns the least change of a point in some place, and of all points above it.
func (c costs) cost(p place) int {
	if cost, is := c.known[p]; is {
		return cost
	}
	cost := c.change(p)
	for at, x := range c.points {
		if x.Down == p.at {
			cost += c.cost(c.cheapest(at, p.height))
		}
	}
	c.known[p] = cost
	return cost
}

// change returns by how much a place differs from the Height of its point.
func (c costs) change(p place) int {
	by := p.height - c.points[p.at].Height
	return max(by, -by)
}

// cheaper reports whether a place costs less than another one.
func (c costs) cheaper(a, b place) bool { return c.cost(a) < c.cost(b) }

// cheapest returns the cheapest place of a point, if its Down has some height: of several the lowest one.
func (c costs) cheapest(at, down int) place { return best(c.places(at, down), c.cheaper) }

// least returns the least change, and the first ones of the heights with it. Of two lists of heights that change least,
// the lower one of each two is such a list, too: so the first list is nowhere higher than another one.
func (c costs) least() (change int, heights []int) {
	heights = make([]int, len(c.points))
	for at := range c.up() {
		down := 0
		if to := c.points[at].Down; to != api.RvMouth {
			down = heights[to]
		}
		p := c.cheapest(at, down)
		heights[at] = p.height
		change += c.change(p)
	}
	return change, heights
}
