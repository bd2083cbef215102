package river

import (
	"slices"

	"hachure/api"
	"hachure/sheet"
)

// within reports whether all numbers are from lo to hi.
func within(lo, hi int, numbers ...int) bool {
	for _, n := range numbers {
		if n < lo || n > hi {
			return false
		}
	}
	return true
}

// name is a name that points are asked for.
type name string

// isOf reports whether a point has the name.
func (n name) isOf(p api.RvPoint) bool { return p.Name == string(n) }

// pointFault returns the error of a point.
func pointFault(r []api.RvPoint, at int) api.Errno {
	p := r[at]
	switch {
	case !sheet.Name(p.Name):
		return api.ErrForm
	case slices.ContainsFunc(r[:at], name(p.Name).isOf):
		return api.ErrTwice
	case !within(0, api.MaxRvLeast, p.Least) || !within(0, api.MaxHeight, p.Height):
		return api.ErrRange
	case p.Down != api.RvMouth && !within(0, len(r)-1, p.Down):
		return api.ErrNone
	case p.Down == at || p.Down == api.RvMouth && p.Least != 0:
		return api.ErrArg
	}
	return api.OK
}

// mouthFault returns the error of points each of which is right by itself, and the point that it is about: there has to be
// just one mouth.
func (p points) mouthFault() (at int, e api.Errno) {
	mouths := 0
	for at, x := range p {
		if x.Down != api.RvMouth {
			continue
		}
		if mouths++; mouths > 1 {
			return at, api.ErrArg
		}
	}
	if mouths == 0 {
		return 0, api.ErrZero
	}
	return 0, api.OK
}

// wayFault returns the error of points with one mouth, and the point that it is about: water has to come to the mouth.
func (p points) wayFault() (at int, e api.Errno) {
	var comes [api.MaxRvPoints]bool
	for at := range p.up() {
		comes[at] = true
	}
	for at := range p {
		if !comes[at] {
			return at, api.ErrDown
		}
	}
	return 0, api.OK
}
