package carve

import "hachure/api"

// within reports whether all numbers are from lo to hi.
func within(lo, hi int, numbers ...int) bool {
	for _, n := range numbers {
		if n < lo || n > hi {
			return false
		}
	}
	return true
}

// pointFault returns the error of a point.
func pointFault(p api.CvPoint) api.Errno {
	if !within(0, api.MaxHeight, p.Board, p.Lo, p.Hi) {
		return api.ErrRange
	}
	if !within(p.Lo, p.Lo+api.MaxCvWide, p.Hi) {
		return api.ErrArg
	}
	return api.OK
}

// surfaceFault returns the error of a surface of a row with so many points.
func surfaceFault(surface []int, points int) api.Errno {
	if len(surface) != points {
		return api.ErrLong
	}
	if !within(0, api.MaxHeight, surface...) {
		return api.ErrRange
	}
	return api.OK
}

// passFault returns the error of a pass over a row with so many points.
func passFault(p api.CvPass, points int) api.Errno {
	if !within(0, points-1, p.From, p.To) {
		return api.ErrNone
	}
	if p.From > p.To {
		return api.ErrArg
	}
	return api.OK
}
