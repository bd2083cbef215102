package carve

import (
	"iter"
	"math"

	"hachure/api"
)

// needs is how much plaster, and how many passes, part of a surface needs.
type needs [2]int

// Which of needs is which.
const (
	plasterAt = iota
	passesAt
)

// and returns both needs together.
func (n needs) and(other needs) needs {
	return needs{n[plasterAt] + other[plasterAt], n[passesAt] + other[passesAt]}
}

// place is a height at a point, or ahead of the first one, where surfaces are followed from.
type place struct{ at, height int }

// ahead is where a place is that is ahead of the first point.
const ahead = -1

// way is how a surface goes on from a place: the height at the next point, and what all of the rest needs.
type way struct {
	height int
	rest   needs
}

// ranks is which of needs comes first, and which one then.
type ranks [2]int

// before reports whether a way needs less than another one.
func (r ranks) before(a, b way) bool {
	for _, at := range r {
		if a.rest[at] != b.rest[at] {
			return a.rest[at] < b.rest[at]
		}
	}
	return false
}

// better returns the better one of two things, the first one if they are as good.
func better[T any](a, b T, before func(a, b T) bool) T {
	if before(b, a) {
		return b
	}
	return a
}

// bounded is a row that is looked at, with the heights that good surfaces have at each point.
type bounded struct {
	looked
	bands []api.Span
}

// bound returns a row with its bounds, or its error, or ErrDown if no surface is good.
func bound(r api.CvRow) (bounded, api.Errno) {
	l, e := look(r)
	if e != api.OK {
		return bounded{}, e
	}
	bands, good := l.bounds()
	if !good {
		return bounded{}, api.ErrDown
	}
	return bounded{l, bands}, api.OK
}

// heights yields the heights that good surfaces through a place have at the next point, the lower ones first.
func (b bounded) heights(from place) iter.Seq[int] {
	band := b.bands[from.at+1]
	return func(yield func(int) bool) {
	heights:
		for up := range band.Hi - band.Lo + 1 {
			height := band.Lo + up
			switch {
			case from.at == ahead: // no height is too steep there
			case height < from.height-b.Steep:
				continue heights
			case height > from.height+b.Steep:
				break heights
			}
			if !yield(height) {
				return
			}
		}
	}
}

// step returns what a surface needs at the point next to a place, with some height there.
func (b bounded) step(from place, height int) needs {
	before, at := 0, from.at+1
	if from.at != ahead {
		before = b.carved(from.at, from.height)
	}
	return needs{plasterAt: b.filled(at, height), passesAt: begun(before, b.carved(at, height))}
}

// ways returns a function that tells the best way from a place, the lowest one of several. Many surfaces go through
// the same place, so its way is kept.
func (b bounded) ways(before func(a, b way) bool) func(place) way {
	known := map[place]way{}
	var from func(p place) way
	from = func(p place) way {
		if w, is := known[p]; is || p.at == len(b.Points)-1 {
			return w
		}
		best := way{rest: needs{math.MaxInt, math.MaxInt}}
		for height := range b.heights(p) {
			behind := from(place{p.at + 1, height})
			best = better(best, way{height, b.step(p, height).and(behind.rest)}, before)
		}
		known[p] = best
		return best
	}
	return from
}

// best returns the best good surface, the first one of several, and what it needs.
func (b bounded) best(before func(a, b way) bool) (surface []int, all needs) {
	from := b.ways(before)
	p := place{at: ahead}
	all = from(p).rest
	for range b.Points {
		p = place{p.at + 1, from(p).height}
		surface = append(surface, p.height)
	}
	return surface, all
}
