package step

import (
	"slices"

	"hachure/api"
)

// which returns the indices of those in a list of which something is so.
func which[T any](list []T, is func(T) bool) (indices []int) {
	for i, x := range list {
		if is(x) {
			indices = append(indices, i)
		}
	}
	return indices
}

// leastWrong returns the shortest of the lists of measures that exclude a truth, the first one of several. A truth agrees
// only if all that exclude it are left out, so no fewer ones do.
func leastWrong(s api.SpStack) (least []int) {
	first := true
	for t := range truthsOf(s.Kinds) {
		list := which(s.Measures, t.excludedBy)
		if first || fewer(list, least) {
			least, first = list, false
		}
	}
	return least
}

// fewer reports whether a list is shorter than another one, or as long and before it.
func fewer(a, b []int) bool {
	return len(a) < len(b) || len(a) == len(b) && slices.Compare(a, b) < 0
}
