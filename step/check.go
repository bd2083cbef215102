package step

import (
	"slices"

	"hachure/api"
	"hachure/sheet"
)

// within reports whether all numbers are from lo to hi.
func within(lo, hi int, numbers ...int) bool {
	for _, n := range numbers {
		if n < lo || n > hi {
			return false
		}
	}
	return true
}

// firstFault returns the first one of a list with an error, and this error, which can depend on those before it.
func firstFault[T any](list []T, fault func(x T, before []T) api.Errno) (int, api.Errno) {
	for i, x := range list {
		if e := fault(x, list[:i]); e != api.OK {
			return i, e
		}
	}
	return 0, api.OK
}

// spanFault returns the error of a span whose ends have to be from lo to hi.
func spanFault(s api.Span, lo, hi int) api.Errno {
	if !within(lo, hi, s.Lo, s.Hi) {
		return api.ErrRange
	}
	if s.Lo > s.Hi {
		return api.ErrArg
	}
	return api.OK
}

// kindFault returns the error of a kind that comes after others.
func kindFault(k api.SpKind, before []api.SpKind) api.Errno {
	if !sheet.Name(k.Name) {
		return api.ErrForm
	}
	if slices.ContainsFunc(before, func(b api.SpKind) bool { return b.Name == k.Name }) {
		return api.ErrTwice
	}
	if !within(0, api.MaxSpGrow, k.Grow) || !within(0, api.MaxSpHave, k.Have) {
		return api.ErrRange
	}
	if e := spanFault(k.Thick, 1, api.MaxSpThick); e != api.OK {
		return e
	}
	if k.Thick.Hi > k.Thick.Lo+api.MaxSpWide {
		return api.ErrArg
	}
	return api.OK
}

// measureFault returns the error of a measure of so many kinds.
func measureFault(m api.SpMeasure, kinds int) api.Errno {
	if len(m.Counts) != kinds {
		return api.ErrLong
	}
	if !within(0, api.MaxSpHave, m.Counts...) || !within(0, api.MaxSpAir, m.Air) {
		return api.ErrRange
	}
	if e := spanFault(m.Level, 0, api.MaxSpLevel); e != api.OK {
		return e
	}
	if countsOf(m.Counts) == (counts{}) {
		return api.ErrArg
	}
	return api.OK
}

// bandFault returns the error of a band that comes after others.
func bandFault(band api.Span, before []api.Span) api.Errno {
	if e := spanFault(band, 1, api.MaxSpLevel); e != api.OK {
		return e
	}
	if n := len(before); n > 0 && band.Lo <= before[n-1].Hi {
		return api.ErrArg
	}
	return api.OK
}

// countsFault returns the error of the counts of a plan that come after others.
func countsFault(list []int, before [][]int, kinds []api.SpKind) api.Errno {
	if len(list) != len(kinds) {
		return api.ErrLong
	}
	for i, k := range kinds {
		if !within(0, k.Have, list[i]) {
			return api.ErrRange
		}
	}
	if n := len(before); n > 0 && !countsOf(before[n-1]).upTo(countsOf(list)) {
		return api.ErrArg
	}
	return api.OK
}

// planFault returns the error of a plan for a stack without one.
func planFault(s api.SpStack, plan [][]int) api.Errno {
	if len(plan) != len(s.Bands) {
		return api.ErrLong
	}
	_, e := firstFault(plan, func(list []int, before [][]int) api.Errno {
		return countsFault(list, before, s.Kinds)
	})
	return e
}
