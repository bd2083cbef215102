package back

import (
	"slices"

	"hachure/api"
	"hachure/sheet"
)

// within reports whether all numbers are from lo to hi.
func within(lo, hi int, numbers ...int) bool {
	for _, n := range numbers {
		if n < lo || n > hi {
			return false
		}
	}
	return true
}

// isIndex reports whether a number is an index of a list.
func isIndex[T any](list []T, n int) bool { return within(0, len(list)-1, n) }

// firstFault returns the first of several things with an error, and this error, which can depend on those before it.
func firstFault[T any](things []T, fault func(thing T, before []T) api.Errno) (at int, e api.Errno) {
	for at, thing := range things {
		if e := fault(thing, things[:at]); e != api.OK {
			return at, e
		}
	}
	return 0, api.OK
}

// featureFault returns the error of a feature that comes after others.
func featureFault(f api.BkFeature, before []api.BkFeature) api.Errno {
	switch {
	case !sheet.Name(f.Name):
		return api.ErrForm
	case slices.ContainsFunc(before, func(b api.BkFeature) bool { return b.Name == f.Name }):
		return api.ErrTwice
	case !within(1, api.MaxBkNominal, f.Nominal), !within(0, api.MaxBkErr, f.Err):
		return api.ErrRange
	}
	return api.OK
}

// causeFault returns the error of a cause of so many features that comes after others.
func causeFault(c api.BkCause, before []api.BkCause, features int) api.Errno {
	switch {
	case !sheet.Name(c.Name):
		return api.ErrForm
	case slices.ContainsFunc(before, func(b api.BkCause) bool { return b.Name == c.Name }):
		return api.ErrTwice
	case len(c.Per) != features:
		return api.ErrLong
	case !within(-api.MaxBkPer, api.MaxBkPer, c.Per...), !within(1, api.MaxBkAmount, c.Amount.Lo, c.Amount.Hi):
		return api.ErrRange
	case !within(0, api.MaxBkWide, c.Amount.Hi-c.Amount.Lo):
		return api.ErrArg
	}
	return api.OK
}

// measureFault returns the error of a measure of some features.
func measureFault(m api.BkMeasure, features []api.BkFeature) api.Errno {
	switch {
	case !isIndex(features, m.Feature):
		return api.ErrNone
	case !within(0, api.MaxBkShown, m.Shown):
		return api.ErrRange
	}
	return api.OK
}
