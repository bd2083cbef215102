package colour

import "slices"

// painting is inks of the first bands with which no two of them that meet are alike, and how many different ones these are.
type painting struct {
	inks []int
	many int
}

// with returns a painting with the ink of the next band.
func (p painting) with(ink int) painting {
	many := p.many
	if !slices.Contains(p.inks, ink) {
		many++
	}
	return painting{append(slices.Clone(p.inks), ink), many}
}

// paint returns the first painting of all bands of those with the fewest inks, and whether there is any. Paintings are
// gone through in order; those that have as many inks as the best one so far are left.
func (l *looked) paint() (best painting, is bool) {
	best.many = l.Inks + 1
	var from func(before painting)
	from = func(before painting) {
		if before.many >= best.many {
			return
		}
		band := len(before.inks)
		if band == l.many() {
			best, is = before, true
			return
		}
	inks:
		for ink := range l.Inks {
			alike := l.alike[ink].has
			for other, taken := range before.inks {
				if l.meets[other][band] && alike(taken) {
					continue inks
				}
			}
			from(before.with(ink))
		}
	}
	from(painting{})
	return best, is
}
