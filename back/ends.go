package back

import "iter"

// ends are the least and the greatest of several things, the first ones of those that compare as the same.
type ends[T any] struct {
	compare         func(a, b T) int
	least, greatest T
	some            bool
}

// add adds one more thing.
func (e *ends[T]) add(thing T) {
	if !e.some || e.compare(thing, e.least) < 0 {
		e.least = thing
	}
	if !e.some || e.compare(thing, e.greatest) > 0 {
		e.greatest = thing
	}
	e.some = true
}

// endsOf returns the ends of things. If there are none, both are zero values.
func endsOf[T any](things iter.Seq[T], compare func(a, b T) int) ends[T] {
	e := ends[T]{compare: compare}
	for thing := range things {
		e.add(thing)
	}
	return e
}
