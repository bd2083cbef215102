package back

import (
	"cmp"
	"iter"
	"maps"
	"math/bits"
	"slices"
)

// group is several sets of causes: the bit of each one, as a set is a number itself.
type group uint64

// with returns the group with one more set.
func (g group) with(s set) group { return g | 1<<s }

// size returns how many sets the group has.
func (g group) size() int { return bits.OnesCount64(uint64(g)) }

// question is a feature, and how many sets are left at worst if it is measured once more.
type question struct{ feature, left int }

// leaves tells which of two questions leaves fewer sets.
func (q question) leaves(other question) int { return cmp.Compare(q.left, other.left) }

// questions yields a question for each feature.
func (l *looked) questions() iter.Seq[question] {
	return func(yield func(question) bool) {
		for at, f := range l.features {
			if !yield(question{at, l.left(f)}) {
				return
			}
		}
	}
}

// left returns the greatest number of sets that can be left if a feature is measured once more. Whatever is shown, lengths
// are left that differ by at most twice Err; and for each length something can be shown that leaves all those which are that
// much above it.
func (l *looked) left(f feature) int {
	at := map[int]group{}
	for _, a := range l.truths {
		length := f.length(a)
		at[length] = at[length].with(a.set())
	}
	lengths := slices.Sorted(maps.Keys(at))
	most := ends[int]{compare: cmp.Compare[int]}
	for i, least := range lengths {
		var left group
		for _, length := range lengths[i:] {
			if !within(least, least+2*f.Err, length) {
				break
			}
			left |= at[length]
		}
		most.add(left.size())
	}
	return most.greatest
}
