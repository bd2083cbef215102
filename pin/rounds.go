package pin

import "sort"

// end is how the rounds end: with lengths that the last round does not change, or stuck, with the pin that the last round
// makes longer than its Most, and the lengths before this round.
type end struct {
	long       lengths
	stuck      bool
	round, pin int
}

// rounds goes through the rounds, and returns how they end. A pin only ever becomes longer, so they do.
func (l *looked) rounds() end {
	r := end{long: l.long}
rounds:
	for {
		r.round++
		now, next := l.with(r.long), r.long
		for pin, p := range l.Pins {
			next[pin] = now.needed(pin)
			if next[pin] > p.Most {
				r.pin, r.stuck = pin, true
				break rounds
			}
		}
		if next == r.long {
			break rounds
		}
		r.long = next
	}
	return r
}

// needed returns the least length of a pin, not below that which it has, with which it is surely seen from each stand; one
// more than its Most if this is too short.
func (l *looked) needed(pin int) int {
	have := l.long[pin]
	enough := func(more int) bool { return l.having(pin, have+more).shown(pin) }
	return have + sort.Search(l.Pins[pin].Most+1-have, enough)
}
