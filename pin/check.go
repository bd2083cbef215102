package pin

import (
	"slices"

	"hachure/api"
	"hachure/sheet"
)

// within reports whether all numbers are from lo to hi.
func within(lo, hi int, numbers ...int) bool {
	for _, n := range numbers {
		if n < lo || n > hi {
			return false
		}
	}
	return true
}

// isIndex reports whether a number is an index of a list.
func isIndex[T any](list []T, n int) bool { return within(0, len(list)-1, n) }

// firstFault returns ErrLong if there are more things than may be; otherwise the first of them with an error, and this
// error, which can depend on those before it.
func firstFault[T any](most int, things []T, fault func(thing T, before []T) api.Errno) (at int, e api.Errno) {
	if len(things) > most {
		return 0, api.ErrLong
	}
	for at, thing := range things {
		if e := fault(thing, things[:at]); e != api.OK {
			return at, e
		}
	}
	return 0, api.OK
}

// groundFault returns the error of a model, whatever its pins and stands are, and the index at which it is.
func groundFault(m api.PnModel) (at int, e api.Errno) {
	switch {
	case !within(1, api.MaxPnSide, m.W, m.D):
		return 0, api.ErrRange
	case len(m.Heights) != m.W*m.D:
		return 0, api.ErrLong
	}
	return firstFault(len(m.Heights), m.Heights, heightFault)
}

// heightFault returns the error of the height of a field.
func heightFault(height int, _ []int) api.Errno {
	if !within(0, api.MaxPnHigh, height) {
		return api.ErrRange
	}
	return api.OK
}

// pinFault returns the error of a pin that comes after others, in a model with these fields.
func (f fields) pinFault(p api.PnPin, before []api.PnPin) api.Errno {
	switch {
	case !sheet.Name(p.Name):
		return api.ErrForm
	case slices.ContainsFunc(before, func(b api.PnPin) bool { return b.Name == p.Name }):
		return api.ErrTwice
	case !f.has(placeOf(p)):
		return api.ErrNone
	case slices.ContainsFunc(before, func(b api.PnPin) bool { return placeOf(b) == placeOf(p) }):
		return api.ErrArg
	case !within(0, api.MaxPnLength, p.Length), !within(p.Length, api.MaxPnLength, p.Most):
		return api.ErrRange
	}
	return api.OK
}

// standFault returns the error of a stand beside a model with these fields.
func (f fields) standFault(s api.PnStand, _ []api.PnStand) api.Errno {
	switch {
	case !within(-api.MaxPnFar, api.MaxPnFar, s.X, s.Y), !within(0, api.MaxPnEye, s.Eye.Lo, s.Eye.Hi):
		return api.ErrRange
	case f.has(place{s.X, s.Y}):
		return api.ErrNone
	case s.Eye.Lo > s.Eye.Hi:
		return api.ErrArg
	}
	return api.OK
}
