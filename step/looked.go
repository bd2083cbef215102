package step

import (
	"iter"

	"hachure/api"
)

// counts are a number of boards for each kind. Where there is no kind they are 0.
type counts [api.MaxSpKinds]int

// countsOf returns counts that are given as a list.
func countsOf(list []int) (c counts) {
	copy(c[:], list)
	return c
}

// listOf returns the first ones of some numbers as a list.
func listOf(numbers [api.MaxSpKinds]int, many int) []int {
	list := make([]int, many)
	copy(list, numbers[:])
	return list
}

// upTo reports whether there are no more boards of any kind than in other counts.
func (c counts) upTo(other counts) bool {
	for i, n := range c {
		if n > other[i] {
			return false
		}
	}
	return true
}

// truth is a thickness for each kind, with these kinds.
type truth struct {
	kinds []api.SpKind
	thick [api.MaxSpKinds]int
}

// level returns the level of counts in some air.
func (t truth) level(c counts, air int) int {
	level := 0
	for i, k := range t.kinds {
		level += c[i] * (t.thick[i] + k.Grow*air)
	}
	return level
}

// excludedBy reports whether a measure is not true.
func (t truth) excludedBy(m api.SpMeasure) bool {
	return !within(m.Level.Lo, m.Level.Hi, t.level(countsOf(m.Counts), m.Air))
}

// truthsOf yields all truths of kinds, whatever was measured, the first ones first.
func truthsOf(kinds []api.SpKind) iter.Seq[truth] {
	return func(yield func(truth) bool) {
		t := truth{kinds: kinds}
		var from func(kind int) bool
		from = func(kind int) bool {
			if kind == len(kinds) {
				return yield(t)
			}
			for thick := kinds[kind].Thick.Lo; thick <= kinds[kind].Thick.Hi; thick++ {
				t.thick[kind] = thick
				if !from(kind + 1) {
					return false
				}
			}
			return true
		}
		from(0)
	}
}

// looked is a stack that is looked at, with the truths that agree, the first ones first. The levels of the same counts
// are asked for band by band, so they are kept.
type looked struct {
	api.SpStack
	truths []truth
	known  map[counts]api.Span
}

// look returns a stack that is looked at, or its error, or ErrZero if no truth agrees.
func look(s api.SpStack) (looked, api.Errno) {
	if _, _, e := Check(s); e != api.OK {
		return looked{}, e
	}
	truths := agreeing(s)
	if len(truths) == 0 {
		return looked{}, api.ErrZero
	}
	return looked{SpStack: s, truths: truths, known: map[counts]api.Span{}}, api.OK
}

// agreeing returns the truths that agree.
func agreeing(s api.SpStack) (list []truth) {
truths:
	for t := range truthsOf(s.Kinds) {
		for _, m := range s.Measures {
			if t.excludedBy(m) {
				continue truths
			}
		}
		list = append(list, t)
	}
	return list
}

// levels returns the least and the greatest level of counts.
func (l looked) levels(c counts) api.Span {
	if s, is := l.known[c]; is {
		return s
	}
	s := api.Span{Lo: api.MaxSpLevel}
	for _, t := range l.truths {
		s = api.Span{Lo: min(s.Lo, t.level(c, l.Air.Lo)), Hi: max(s.Hi, t.level(c, l.Air.Hi))}
	}
	l.known[c] = s
	return s
}

// thick returns the least and the greatest thickness of a kind.
func (l looked) thick(kind int) api.Span {
	s := api.Span{Lo: api.MaxSpThick}
	for _, t := range l.truths {
		s = api.Span{Lo: min(s.Lo, t.thick[kind]), Hi: max(s.Hi, t.thick[kind])}
	}
	return s
}

// meets reports whether the level of counts is always in a band.
func (l looked) meets(c counts, band api.Span) bool {
	s := l.levels(c)
	return s.Lo >= band.Lo && s.Hi <= band.Hi
}

// missed returns the first truth, and the least air in it, in which the level of counts is not in a band, and whether
// there is one.
func (l looked) missed(c counts, band api.Span) (t truth, air int, is bool) {
	for _, t := range l.truths {
		for air := l.Air.Lo; air <= l.Air.Hi; air++ {
			if !within(band.Lo, band.Hi, t.level(c, air)) {
				return t, air, true
			}
		}
	}
	return truth{}, 0, false
}
