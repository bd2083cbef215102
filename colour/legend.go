package colour

import "hachure/api"

// place is where a legend is followed: the next border, and the number of the one before it.
type place struct{ border, last int }

// rest is the numbers of all borders from some one on, and how many points they leave unsure that are not so by those
// before them; or that there are no such numbers.
type rest struct {
	numbers []int
	unsure  int
	is      bool
}

// with returns a rest with a number before it, which leaves so many more points unsure.
func (r rest) with(n, unsure int) rest {
	return rest{append([]int{n}, r.numbers...), r.unsure + unsure, true}
}

// beats reports whether there is such a rest, and it leaves fewer points unsure than another one, or there is no other one.
func (r rest) beats(other rest) bool { return r.is && (!other.is || r.unsure < other.unsure) }

// unsureBy returns how many points are unsure by a number of a legend, but not by those before it. A number leaves a point
// unsure if it is above its least height, and at most its greatest one. If some number does, and one before it did, the
// last one before it did, too, as it lies between them: so the last one alone is asked.
func unsureBy(m api.ClMap, n, last int) (many int) {
	for _, heights := range m.Heights {
		if last <= heights.Lo && heights.Lo < n && n <= heights.Hi {
			many++
		}
	}
	return many
}

// best returns the first legend of those that leave the fewest points unsure, as a rest from the first border on.
func best(m api.ClMap) rest {
	known := map[place]rest{}
	var follow func(at place) rest
	follow = func(at place) rest {
		if at.border == len(m.Borders) {
			return rest{is: true}
		}
		if r, is := known[at]; is {
			return r
		}
		var found rest
		border := m.Borders[at.border]
		for n := range numbers(api.Span{Lo: max(border.Lo, at.last+m.Step), Hi: border.Hi}) {
			r := follow(place{at.border + 1, n})
			if r.is {
				r = r.with(n, unsureBy(m, n, at.last))
			}
			if r.beats(found) {
				found = r
			}
		}
		known[at] = found
		return found
	}
	// Any number may be the first one: it is at least Step above one that is below all heights.
	return follow(place{0, -m.Step})
}
