package sheet

import (
	"slices"

	"hachure/api"
)

// having returns the sheet with just the notes that are in a list, or, if in is false, just those that are not.
func (l looked) having(list []int, in bool) looked {
	var notes []api.ShNote
	for i, n := range l.Notes {
		if slices.Contains(list, i) == in {
			notes = append(notes, n)
		}
	}
	l.Notes = notes
	return l
}

// fewest returns the list with the fewest of the numbers 0 to n-1 that is good, the first one of several, and none if
// no list is. Lists are found in order, so a later one is better only if it is shorter.
func fewest(n int, good func(list []int) bool) []int {
	if good(nil) {
		return nil
	}
	var best []int
	var extend func(list []int, from int)
	extend = func(list []int, from int) {
	further:
		for i := from; i < n; i++ {
			longer := append(slices.Clone(list), i)
			switch {
			case len(best) > 0 && len(longer) >= len(best):
				break further
			case good(longer):
				best = longer
			default:
				extend(longer, i+1)
			}
		}
	}
	extend(nil, 0)
	return best
}
