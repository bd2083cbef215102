package edge

import (
	"slices"

	"hachure/api"
	"hachure/sheet"
)

// within reports whether all numbers are from lo to hi.
func within(lo, hi int, numbers ...int) bool {
	for _, n := range numbers {
		if n < lo || n > hi {
			return false
		}
	}
	return true
}

// sheetFault returns the error of a sheet that comes after others.
func sheetFault(s api.EdSheet, before []api.EdSheet) api.Errno {
	if !sheet.Name(s.Name) {
		return api.ErrForm
	}
	if slices.ContainsFunc(before, func(b api.EdSheet) bool { return b.Name == s.Name }) {
		return api.ErrTwice
	}
	if !within(0, api.MaxEdWeight, s.Weight) || !within(0, api.MaxEdMost, s.Most) {
		return api.ErrRange
	}
	return api.OK
}

// edgeFault returns the error of an edge between some of so many sheets.
func edgeFault(d api.EdEdge, sheets int) api.Errno {
	if !within(0, sheets-1, d.A, d.B) {
		return api.ErrNone
	}
	if d.A == d.B {
		return api.ErrArg
	}
	if !within(1, api.MaxEdPoints, len(d.Points)) {
		return api.ErrLong
	}
	for _, p := range d.Points {
		if !within(0, api.MaxHeight, p.A, p.B) {
			return api.ErrRange
		}
	}
	return api.OK
}
