// Package sheet is layer 1: see shared/doc/01-sheet.md.
package sheet

import (
	"sort"

	"hachure/api"
)

// Name reports whether a string is a name.
func Name(s string) bool {
	if !within(1, api.MaxName, len(s)) {
		return false
	}
	for i, c := range s {
		letter := 'a' <= c && c <= 'z'
		further := '0' <= c && c <= '9' || c == '-'
		if !letter && (i == 0 || !further) {
			return false
		}
	}
	return true
}

// Check returns the part, the index in it and the error of a sheet.
func Check(s api.ShSheet) (part, at int, e api.Errno) {
	l := looked{ShSheet: s}
	if !within(1, api.MaxShInterval, s.Interval) {
		return 1, 0, api.ErrRange
	}
	if !within(1, api.MaxShPoints, len(s.Points)) {
		return 2, 0, api.ErrLong
	}
	if at, e = firstFault(s.Points, nameFault()); e != api.OK {
		return 2, at, e
	}
	if len(s.Notes) > api.MaxShNotes {
		return 3, 0, api.ErrLong
	}
	if at, e = firstFault(s.Notes, l.noteFault); e != api.OK {
		return 3, at, e
	}
	return 0, 0, api.OK
}

// Fits reports whether there is a truth.
func Fits(s api.ShSheet) (bool, api.Errno) {
	if _, _, e := Check(s); e != api.OK {
		return false, e
	}
	return looked{ShSheet: s}.fits(), api.OK
}

// Heights returns between which heights each point is.
func Heights(s api.ShSheet) ([]api.Span, api.Errno) {
	f, e := measured(s)
	if e != api.OK {
		return nil, e
	}
	heights := make([]api.Span, len(s.Points))
	for a := range heights {
		heights[a] = f.between(a, ground)
	}
	return heights, api.OK
}

// Apart returns how much one point is above another one, and which of them is higher.
func Apart(s api.ShSheet, a, b int) (by api.Span, order int, e api.Errno) {
	if _, _, e := Check(s); e != api.OK {
		return api.Span{}, 0, e
	}
	if !within(0, len(s.Points)-1, a, b) {
		return api.Span{}, 0, api.ErrNone
	}
	f, e := measured(s)
	if e != api.OK {
		return api.Span{}, 0, e
	}
	by = f.between(a, b)
	return by, orderOf(by), api.OK
}

// orderOf returns which of two points is higher that are apart by a span.
func orderOf(by api.Span) int {
	switch {
	case by == api.Span{}:
		return api.ShLevel
	case by.Lo > 0:
		return api.ShHigher
	case by.Hi < 0:
		return api.ShLower
	}
	return api.ShEither
}

// Highest returns the points that can be highest of all.
func Highest(s api.ShSheet) ([]int, api.Errno) {
	f, e := measured(s)
	if e != api.OK {
		return nil, e
	}
	var highest []int
	for a := range s.Points {
		if f.canTop(a, len(s.Points)) {
			highest = append(highest, a)
		}
	}
	return highest, api.OK
}

// Proof returns the fewest notes that contradict each other.
func Proof(s api.ShSheet) ([]int, api.Errno) {
	if _, _, e := Check(s); e != api.OK {
		return nil, e
	}
	l := looked{ShSheet: s}
	if l.fits() {
		return nil, api.ErrNone
	}
	return fewest(len(s.Notes), func(list []int) bool { return !l.having(list, true).fits() }), api.OK
}

// Wrong returns the fewest notes that can be wrong.
func Wrong(s api.ShSheet) ([]int, api.Errno) {
	if _, _, e := Check(s); e != api.OK {
		return nil, e
	}
	l := looked{ShSheet: s}
	return fewest(len(s.Notes), func(list []int) bool { return l.having(list, false).fits() }), api.OK
}

// Wider returns by how much all notes have to be wider.
func Wider(s api.ShSheet) (int, api.Errno) {
	if _, _, e := Check(s); e != api.OK {
		return 0, e
	}
	// With MaxHeight each note allows any two heights that are equal, so no sheet needs more.
	wider := sort.Search(api.MaxHeight, func(by int) bool { return looked{ShSheet: s, wider: by}.fits() })
	return wider, api.OK
}

// measured returns how far the heights of a sheet can be apart, or its error, or ErrDown if it does not fit.
func measured(s api.ShSheet) (far, api.Errno) {
	if _, _, e := Check(s); e != api.OK {
		return far{}, e
	}
	f, fits := looked{ShSheet: s}.apart()
	if !fits {
		return far{}, api.ErrDown
	}
	return f, api.OK
}
