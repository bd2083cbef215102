package back

import (
	"cmp"
	"iter"
	"slices"

	"hachure/api"
)

// amounts are a truth: a number for each cause, 0 if it is not there. Where a claim has no cause they are 0.
type amounts [api.MaxBkCauses]int

// set returns the causes that are there.
func (a amounts) set() (s set) {
	for cause, n := range a {
		if n != 0 {
			s = s.with(cause)
		}
	}
	return s
}

// list returns the numbers of the first causes.
func (a amounts) list(causes int) []int {
	list := make([]int, causes)
	copy(list, a[:])
	return list
}

// compare tells which of two truths is plainer: the one whose set comes first in order, or, if both have the same set, the
// one that comes first number by number.
func (a amounts) compare(b amounts) int {
	switch s, other := a.set(), b.set(); {
	case a == b:
		return 0
	case s != other:
		return s.compare(other)
	}
	return slices.Compare(a[:], b[:])
}

// feature is a feature that is looked at, and by how much one of each cause changes it.
type feature struct {
	api.BkFeature
	per [api.MaxBkCauses]int
}

// length returns the length of the feature in a truth.
func (f feature) length(a amounts) int {
	length := f.Nominal
	for cause, n := range a {
		length += n * f.per[cause]
	}
	return length
}

// canShow reports whether a measure of the feature that showed some number is true.
func (f feature) canShow(shown int, a amounts) bool {
	return within(shown-f.Err, shown+f.Err, f.length(a))
}

// looked is a claim that is looked at, its features, the truths that agree, the first ones first, and the sets that explain
// it.
type looked struct {
	api.BkClaim
	features []feature
	truths   []amounts
	explain  map[set]bool
}

// look returns a claim that is looked at, or its error.
func look(c api.BkClaim) (*looked, api.Errno) {
	if _, _, e := Check(c); e != api.OK {
		return nil, e
	}
	l := &looked{BkClaim: c, explain: map[set]bool{}}
	for at, f := range c.Features {
		known := feature{BkFeature: f}
		for i, cause := range c.Causes {
			known.per[i] = cause.Per[at]
		}
		l.features = append(l.features, known)
	}
truths:
	for a := range l.all() {
		for _, m := range l.Measures {
			if !l.isTrue(m, a) {
				continue truths
			}
		}
		l.truths = append(l.truths, a)
		l.explain[a.set()] = true
	}
	return l, api.OK
}

// lookAgreeing returns a claim that is looked at, or its error, or ErrZero if no truth agrees.
func lookAgreeing(c api.BkClaim) (*looked, api.Errno) {
	l, e := look(c)
	switch {
	case e != api.OK:
		return nil, e
	case l.contrary():
		return nil, api.ErrZero
	}
	return l, api.OK
}

// all yields all truths, whatever was measured, the first ones first.
func (l *looked) all() iter.Seq[amounts] {
	return func(yield func(amounts) bool) {
		var a amounts
		var from func(cause int) bool
		from = func(cause int) bool {
			if cause == len(l.Causes) {
				return yield(a)
			}
			a[cause] = 0
			more := from(cause + 1)
			amount := l.Causes[cause].Amount
			for n := amount.Lo; more && n <= amount.Hi; n++ {
				a[cause] = n
				more = from(cause + 1)
			}
			return more
		}
		from(0)
	}
}

// isTrue reports whether a measure is true in a truth.
func (l *looked) isTrue(m api.BkMeasure, a amounts) bool {
	return l.features[m.Feature].canShow(m.Shown, a)
}

// wrong yields of each truth the measures that are not true in it.
func (l *looked) wrong() iter.Seq[set] {
	return func(yield func(set) bool) {
		for a := range l.all() {
			var wrong set
			for at, m := range l.Measures {
				if !l.isTrue(m, a) {
					wrong = wrong.with(at)
				}
			}
			if !yield(wrong) {
				return
			}
		}
	}
}

// contrary reports whether no truth agrees.
func (l *looked) contrary() bool { return len(l.truths) == 0 }

// between returns the least and the greatest number that is told of a truth that agrees.
func (l *looked) between(tell func(amounts) int) api.Span {
	numbers := ends[int]{compare: cmp.Compare[int]}
	for _, a := range l.truths {
		numbers.add(tell(a))
	}
	return api.Span{Lo: numbers.least, Hi: numbers.greatest}
}

// sets yields the sets that explain the claim, in order.
func (l *looked) sets() iter.Seq[set] {
	var sets []set
	for s := range set(1) << len(l.Causes) {
		if l.explain[s] {
			sets = append(sets, s)
		}
	}
	slices.SortFunc(sets, set.compare)
	return slices.Values(sets)
}

// leastSets returns the sets that explain the claim of which no lesser part does, in order. A part that does has a least one
// in it, which comes before.
func (l *looked) leastSets() (least []set) {
	for s := range l.sets() {
		if !slices.ContainsFunc(least, s.has) {
			least = append(least, s)
		}
	}
	return least
}
