package scale

import "hachure/api"

// within reports whether all numbers are from lo to hi.
func within(lo, hi int, numbers ...int) bool {
	for _, n := range numbers {
		if n < lo || n > hi {
			return false
		}
	}
	return true
}

// roadFault returns the error of a road between some of so many points.
func roadFault(r api.ScRoad, points int) api.Errno {
	if !within(0, points-1, r.From, r.To) {
		return api.ErrNone
	}
	if r.From == r.To {
		return api.ErrArg
	}
	return api.OK
}

// scaleFault returns the error of a scale.
func scaleFault(s api.ScScale) api.Errno {
	if !within(1, api.MaxScPart, s.Up, s.Down) {
		return api.ErrRange
	}
	if lowest(s) != s {
		return api.ErrForm
	}
	return api.OK
}

// lowest returns a scale divided by the greatest common divisor of both of its parts.
func lowest(s api.ScScale) api.ScScale {
	greatest := 1
	for less := range min(s.Up, s.Down) {
		divisor := less + 1
		if s.Up%divisor == 0 && s.Down%divisor == 0 {
			greatest = divisor
		}
	}
	return api.ScScale{Up: s.Up / greatest, Down: s.Down / greatest}
}

// marksFault returns the error of marks on some of so many points.
func marksFault(marks []api.ScMark, points int) api.Errno {
	if len(marks) > api.MaxScMarks {
		return api.ErrLong
	}
	for _, m := range marks {
		if e := markFault(m, points); e != api.OK {
			return e
		}
	}
	return api.OK
}

// markFault returns the error of a mark on one of so many points.
func markFault(m api.ScMark, points int) api.Errno {
	switch {
	case !within(0, points-1, m.Point):
		return api.ErrNone
	case !within(0, api.MaxScCut, m.Cut.Lo, m.Cut.Hi):
		return api.ErrRange
	case m.Cut.Lo > m.Cut.Hi:
		return api.ErrArg
	}
	return api.OK
}
