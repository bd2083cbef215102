package sheet

import "hachure/api"

// within reports whether all numbers are from lo to hi.
func within(lo, hi int, numbers ...int) bool {
	for _, n := range numbers {
		if n < lo || n > hi {
			return false
		}
	}
	return true
}

// firstFault returns the index and the error of the first element of a list with one.
func firstFault[T any](list []T, fault func(T) api.Errno) (at int, e api.Errno) {
	for i, x := range list {
		if e := fault(x); e != api.OK {
			return i, e
		}
	}
	return 0, api.OK
}

// nameFault returns a function that tells the error of each point, one after the other.
func nameFault() func(string) api.Errno {
	seen := map[string]bool{}
	return func(name string) api.Errno {
		if !Name(name) {
			return api.ErrForm
		}
		if seen[name] {
			return api.ErrTwice
		}
		seen[name] = true
		return api.OK
	}
}

// noteFault returns the error of a note of a sheet whose Interval and Points have none.
func (l looked) noteFault(n api.ShNote) api.Errno {
	s := l.saying(n)
	if s == nil {
		return api.ErrForm
	}
	if !within(0, len(l.Points)-1, n.A, n.B) {
		return api.ErrNone
	}
	if over := s.over(); over == n.A || over == ground && n.B != 0 {
		return api.ErrArg
	}
	if ends := s.ends(); !within(ends.Lo, ends.Hi, n.By.Lo, n.By.Hi) {
		return api.ErrRange
	}
	if n.By.Lo > n.By.Hi || n.Kind == api.ShContour && n.By.Lo == n.By.Hi {
		return api.ErrArg
	}
	return api.OK
}
