package scale

import (
	"iter"

	"hachure/api"
)

// ascending yields all scales, the lesser ones first.
func ascending() iter.Seq[api.ScScale] {
	return between(api.ScScale{Up: 0, Down: 1}, api.ScScale{Up: 1, Down: 0})
}

// descending yields all scales, the greater ones first.
func descending() iter.Seq[api.ScScale] {
	return between(api.ScScale{Up: 1, Down: 0}, api.ScScale{Up: 0, Down: 1})
}

// between yields all scales between two, from the former to the latter, neither of which need be a scale. Each is made
// of the two that are beside it so far, by adding their parts, which gives all fractions between them once, without a
// common divisor. No part of those that are made of it is less than its own, so behind one that is no scale there is none.
func between(from, to api.ScScale) iter.Seq[api.ScScale] {
	return func(yield func(api.ScScale) bool) {
		var each func(a, b api.ScScale) bool
		each = func(a, b api.ScScale) bool {
			made := api.ScScale{Up: a.Up + b.Up, Down: a.Down + b.Down}
			if max(made.Up, made.Down) > api.MaxScPart {
				return true
			}
			return each(a, made) && yield(made) && each(made, b)
		}
		each(from, to)
	}
}

// first returns the first thing that does, and whether there is one.
func first[T any](things iter.Seq[T], does func(T) bool) (thing T, is bool) {
	for t := range things {
		if does(t) {
			return t, true
		}
	}
	return thing, false
}
