package colour

import "hachure/api"

// within reports whether all numbers are from lo to hi.
func within(lo, hi int, numbers ...int) bool {
	for _, n := range numbers {
		if n < lo || n > hi {
			return false
		}
	}
	return true
}

// firstFault returns the first of several things with an error, and this error, which can depend on those before it.
func firstFault[T any](things []T, fault func(thing T, before []T) api.Errno) (at int, e api.Errno) {
	for at, thing := range things {
		if e := fault(thing, things[:at]); e != api.OK {
			return at, e
		}
	}
	return 0, api.OK
}

// mapFault returns the error of a map, whatever its borders, heights, sides and pairs of inks are.
func mapFault(m api.ClMap) api.Errno {
	switch {
	case !within(1, api.MaxClBorders, len(m.Borders)), !within(1, api.MaxClPoints, len(m.Heights)):
		return api.ErrLong
	case len(m.Sides) > api.MaxClSides, len(m.Like) > api.MaxClLike:
		return api.ErrLong
	case !within(1, api.MaxClStep, m.Step), !within(1, api.MaxClInks, m.Inks):
		return api.ErrRange
	}
	return api.OK
}

// spanFault returns the error of a span of heights whose Hi may be above its Lo by most.
func spanFault(s api.Span, most int) api.Errno {
	switch {
	case !within(0, api.MaxHeight, s.Lo, s.Hi):
		return api.ErrRange
	case !within(0, most, s.Hi-s.Lo):
		return api.ErrArg
	}
	return api.OK
}

// borderFault returns the error of a border.
func borderFault(s api.Span, _ []api.Span) api.Errno { return spanFault(s, api.MaxClWide) }

// heightFault returns the error of the heights of a point. They may be as wide as there is room.
func heightFault(s api.Span, _ []api.Span) api.Errno { return spanFault(s, api.MaxHeight) }

// pairFault returns the error of a pair of two of so many points, or inks.
func pairFault(p api.ClPair, many int) api.Errno {
	switch {
	case !within(0, many-1, p.A, p.B):
		return api.ErrNone
	case p.A == p.B:
		return api.ErrArg
	}
	return api.OK
}

// firstPairFault returns the first of several pairs with an error, and this error.
func firstPairFault(pairs []api.ClPair, many int) (at int, e api.Errno) {
	return firstFault(pairs, func(p api.ClPair, _ []api.ClPair) api.Errno { return pairFault(p, many) })
}

// numberFault returns the error of a number of a legend that comes after others.
func numberFault(m api.ClMap, n int, before []int) api.Errno {
	border := m.Borders[len(before)]
	switch {
	case !within(border.Lo, border.Hi, n):
		return api.ErrRange
	case len(before) > 0 && n < before[len(before)-1]+m.Step:
		return api.ErrArg
	}
	return api.OK
}
