package pin

import (
	"cmp"
	"slices"
)

// set is a set of stands, or of pins, as bits.
type set uint

// has reports whether a stand, or a pin, is in the set.
func (s set) has(n int) bool { return s>>n&1 == 1 }

// list returns those of so many stands, or pins, that are in the set, ascending.
func (s set) list(many int) (list []int) {
	for n := range many {
		if s.has(n) {
			list = append(list, n)
		}
	}
	return list
}

// fewest returns the fewest of several things that do, the first ones of several such lists, and whether any do.
func fewest[T any](things []T, do func(some set) bool) (found []int, is bool) {
	for some := range set(1) << len(things) {
		list := some.list(len(things))
		before := cmp.Or(cmp.Compare(len(list), len(found)), slices.Compare(list, found)) < 0
		if (before || !is) && do(some) {
			found, is = list, true
		}
	}
	return found, is
}

// covered reports whether each pin is surely seen from one of some stands.
func (l *looked) covered(by set) bool {
	return l.all(func(pin int) bool {
		return slices.ContainsFunc(by.list(len(l.Stands)), func(stand int) bool { return l.surely(l.Stands[stand]).shows(pin) })
	})
}

// shownWithout reports whether, without some pins, all others are surely seen from each stand.
func (l *looked) shownWithout(off set) bool {
	m := l.PnModel
	m.Pins = nil
	for _, pin := range l.those(func(pin int) bool { return !off.has(pin) }) {
		m.Pins = append(m.Pins, l.Pins[pin])
	}
	left := lookAt(m)
	return left.all(left.shown)
}
