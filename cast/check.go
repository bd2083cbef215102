package cast

import (
	"slices"

	"hachure/api"
	"hachure/sheet"
)

// within reports whether all numbers are from lo to hi.
func within(lo, hi int, numbers ...int) bool {
	for _, n := range numbers {
		if n < lo || n > hi {
			return false
		}
	}
	return true
}

// firstFault returns the first of several things with an error, and this error, which can depend on those before it.
func firstFault[T any](things []T, fault func(thing T, before []T) api.Errno) (at int, e api.Errno) {
	for at, thing := range things {
		if e := fault(thing, things[:at]); e != api.OK {
			return at, e
		}
	}
	return 0, api.OK
}

// torn reports whether the Hi of a span is below its Lo, or more above it than it may be.
func torn(s api.Span, most int) bool { return !within(0, most, s.Hi-s.Lo) }

// spanFault returns the error of a span whose ends have to be from 0 to hi, and whose Hi may be above its Lo by most.
func spanFault(s api.Span, hi, most int) api.Errno {
	switch {
	case !within(0, hi, s.Lo, s.Hi):
		return api.ErrRange
	case torn(s, most):
		return api.ErrArg
	}
	return api.OK
}

// sizeFault returns the error of sizes that were measured, or ordered. They may be as wide as there is room.
func sizeFault(s api.Span) api.Errno { return spanFault(s, api.MaxCaSize, api.MaxCaSize) }

// mouldFault returns the error of a mould that comes after others.
func mouldFault(m api.CaMould, before []api.CaMould) api.Errno {
	switch {
	case !sheet.Name(m.Name):
		return api.ErrForm
	case slices.ContainsFunc(before, func(b api.CaMould) bool { return b.Name == m.Name }):
		return api.ErrTwice
	case !within(1, api.MaxCaSize, m.Size.Lo, m.Size.Hi), !within(0, api.MaxCaWear, m.Wear.Lo, m.Wear.Hi), !within(1, api.MaxCaCasts, m.Casts):
		return api.ErrRange
	case torn(m.Size, api.MaxCaWide), torn(m.Wear, api.MaxCaWorn):
		return api.ErrArg
	}
	return api.OK
}

// isCast reports whether a shop has some cast.
func isCast(s api.CaShop, at api.CaPlace) bool {
	return within(0, len(s.Moulds)-1, at.Mould) && within(0, s.Moulds[at.Mould].Casts-1, at.Cast)
}

// seenFault returns the error of a cast that was measured in a shop.
func seenFault(s api.CaShop, c api.CaSeen) api.Errno {
	if !isCast(s, api.CaPlace{Mould: c.Mould, Cast: c.Cast}) {
		return api.ErrNone
	}
	return sizeFault(c.Size)
}

// orderFault returns the error of an order.
func orderFault(order []api.Span) api.Errno {
	if !within(1, api.MaxCaPieces, len(order)) {
		return api.ErrLong
	}
	_, e := firstFault(order, func(piece api.Span, _ []api.Span) api.Errno { return sizeFault(piece) })
	return e
}
