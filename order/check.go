package order

import (
	"slices"

	"hachure/api"
	"hachure/sheet"
)

// within reports whether all numbers are from lo to hi.
func within(lo, hi int, numbers ...int) bool {
	for _, n := range numbers {
		if n < lo || n > hi {
			return false
		}
	}
	return true
}

// isIndex reports whether a number is an index of a list.
func isIndex[T any](list []T, n int) bool { return within(0, len(list)-1, n) }

// first returns the index of the first thing that does, or how many things there are if none does.
func first[T any](things []T, does func(at int, thing T) bool) int {
	for at, thing := range things {
		if does(at, thing) {
			return at
		}
	}
	return len(things)
}

// firstFault returns the first of several things with an error, and this error, which can depend on those before it.
func firstFault[T any](things []T, fault func(thing T, before []T) api.Errno) (at int, e api.Errno) {
	for at, thing := range things {
		if e := fault(thing, things[:at]); e != api.OK {
			return at, e
		}
	}
	return 0, api.OK
}

// shopFault returns the error of how many hours, parts and orders a shop has.
func shopFault(s api.OrShop) api.Errno {
	if !within(1, api.MaxOrDays, len(s.Hours)) || !within(1, api.MaxOrParts, len(s.Parts)) || len(s.Orders) > api.MaxOrOrders {
		return api.ErrLong
	}
	return api.OK
}

// hoursFault returns the error of the hours of a day.
func hoursFault(hours int, _ []int) api.Errno {
	if !within(0, api.MaxOrHours, hours) {
		return api.ErrRange
	}
	return api.OK
}

// partFault returns the error of a part that comes after others.
func partFault(p api.OrPart, before []api.OrPart) api.Errno {
	switch {
	case !sheet.Name(p.Name):
		return api.ErrForm
	case slices.ContainsFunc(before, func(b api.OrPart) bool { return b.Name == p.Name }):
		return api.ErrTwice
	case !within(1, api.MaxOrBatch, p.Batch), !within(1, api.MaxOrLong, p.Long), !within(0, api.MaxOrStock, p.Stock):
		return api.ErrRange
	}
	return api.OK
}

// orderFault returns the error of an order of a shop whose hours and parts have none.
func orderFault(s api.OrShop, o api.OrOrder) api.Errno {
	switch {
	case !isIndex(s.Parts, o.Part):
		return api.ErrNone
	case !within(1, api.MaxOrMany, o.Many), !isIndex(s.Hours, o.Due), !within(0, api.MaxOrWorth, o.Worth):
		return api.ErrRange
	}
	return api.OK
}

// takenFault returns the error of the indices of orders that are taken.
func takenFault(s api.OrShop, taken []int) api.Errno {
	if !within(0, len(s.Orders)-1, taken...) {
		return api.ErrNone
	}
	_, e := firstFault(taken, func(order int, before []int) api.Errno {
		if len(before) > 0 && order <= before[len(before)-1] {
			return api.ErrArg
		}
		return api.OK
	})
	return e
}
