package pin

import (
	"iter"

	"hachure/api"
)

// place is a point at whole X and Y.
type place struct{ x, y int }

// placeOf returns the place of a pin.
func placeOf(p api.PnPin) place { return place{p.X, p.Y} }

// fields are the places of a model that are fields, and their numbers.
type fields map[place]int

// fieldsOf returns the fields of a model.
func fieldsOf(m api.PnModel) fields {
	f := fields{}
	for field := range m.Heights {
		f[place{field % m.W, field / m.W}] = field
	}
	return f
}

// has reports whether a place is a field.
func (f fields) has(at place) bool {
	_, is := f[at]
	return is
}

// step is a field that is on the line from a place to a pin, and how many of the equal steps between these two it is away
// from either.
type step struct{ field, from, to int }

// between yields the fields between a place and a pin, the nearest to the place first. Those at whole X and Y that are not
// of the model are no fields.
func (f fields) between(from, to place) iter.Seq[step] {
	return func(yield func(step) bool) {
		x, y := to.x-from.x, to.y-from.y
		steps := divisor(x, y)
		for n := 1; n < steps; n++ {
			field, is := f[place{from.x + x/steps*n, from.y + y/steps*n}]
			if is && !yield(step{field, n, steps - n}) {
				return
			}
		}
	}
}

// divisor returns the greatest number that divides two numbers, which are not both 0.
func divisor(a, b int) int {
	for b != 0 {
		a, b = b, a%b
	}
	return max(a, -a)
}

// beside yields the places beside a model, those with the least Y first, and of these those with the least X.
func (l *looked) beside() iter.Seq[place] {
	return func(yield func(place) bool) {
		for row := range l.D + 2 {
			for column := range l.W + 2 {
				at := place{column - 1, row - 1}
				if !l.fields.has(at) && !yield(at) {
					return
				}
			}
		}
	}
}
