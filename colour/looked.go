package colour

import (
	"iter"

	"hachure/api"
)

// set is a set of inks.
type set [api.MaxClInks]bool

// has reports whether an ink is in the set.
func (s set) has(ink int) bool { return s[ink] }

// meeting tells of each two bands whether they meet.
type meeting [api.MaxClBorders + 1][api.MaxClBorders + 1]bool

// looked is a map that is looked at with a legend: in which bands each point can be, which bands meet, and which inks are
// alike to each one.
type looked struct {
	api.ClMap
	bands []api.Span
	meets meeting
	alike [api.MaxClInks]set
}

// look returns a map that is looked at with a legend, or the error of either.
func look(m api.ClMap, legend []int) (*looked, api.Errno) {
	if _, e := CheckLegend(m, legend); e != api.OK {
		return nil, e
	}
	l := &looked{ClMap: m}
	for _, heights := range m.Heights {
		l.bands = append(l.bands, api.Span{Lo: band(legend, heights.Lo), Hi: band(legend, heights.Hi)})
	}
	for _, side := range m.Sides {
		for pair := range l.pairs(side) {
			l.meets[pair.A][pair.B], l.meets[pair.B][pair.A] = true, true
		}
	}
	for ink := range m.Inks {
		l.alike[ink][ink] = true
	}
	for _, like := range m.Like {
		l.alike[like.A][like.B], l.alike[like.B][like.A] = true, true
	}
	return l, api.OK
}

// band returns the band of a height.
func band(legend []int, height int) (band int) {
	for _, n := range legend {
		if n <= height {
			band++
		}
	}
	return band
}

// numbers yields the numbers of a span, ascending; none if its Lo is above its Hi.
func numbers(s api.Span) iter.Seq[int] {
	return func(yield func(int) bool) {
		for more := range s.Hi - s.Lo + 1 {
			if !yield(s.Lo + more) {
				return
			}
		}
	}
}

// pairs yields all pairs of bands that are not the same, in which the points of a side can be. As no height says anything
// of another one, each band of the one point goes with each one of the other.
func (l *looked) pairs(side api.ClPair) iter.Seq[api.ClPair] {
	return func(yield func(api.ClPair) bool) {
		for a := range numbers(l.bands[side.A]) {
			for b := range numbers(l.bands[side.B]) {
				if a != b && !yield(api.ClPair{A: a, B: b}) {
					return
				}
			}
		}
	}
}

// many returns how many bands there are.
func (l *looked) many() int { return len(l.Borders) + 1 }

// meetings yields the pairs of bands that meet, the lower one first, in order.
func (l *looked) meetings() iter.Seq[api.ClPair] {
	return func(yield func(api.ClPair) bool) {
		for a := range l.many() {
			for b := range l.many() {
				if a < b && l.meets[a][b] && !yield(api.ClPair{A: a, B: b}) {
					return
				}
			}
		}
	}
}

// unsure returns the points that can be in several bands.
func (l *looked) unsure() (points []int) {
	for point, bands := range l.bands {
		if bands.Lo != bands.Hi {
			points = append(points, point)
		}
	}
	return points
}

// isMistaken reports whether a side is mistaken with some inks.
func (l *looked) isMistaken(side api.ClPair, inks []int) bool {
	for pair := range l.pairs(side) {
		if l.alike[inks[pair.A]].has(inks[pair.B]) {
			return true
		}
	}
	return false
}
