package carve

import (
	"iter"
	"slices"

	"hachure/api"
)

// looked is a row that is looked at.
type looked struct{ api.CvRow }

// look returns a row that is looked at, or its error.
func look(r api.CvRow) (looked, api.Errno) {
	if _, _, e := Check(r); e != api.OK {
		return looked{}, e
	}
	return looked{r}, api.OK
}

// lookWith returns a row that is looked at with a surface, or the error of the row, or of the surface.
func lookWith(r api.CvRow, surface []int) (looked, api.Errno) {
	l, e := look(r)
	if e != api.OK {
		return looked{}, e
	}
	if e := surfaceFault(surface, len(r.Points)); e != api.OK {
		return looked{}, e
	}
	return l, api.OK
}

// neighbours yields each two points that are one beside the other, from left to right.
func (l looked) neighbours() iter.Seq2[int, int] {
	return func(yield func(a, b int) bool) {
		for b := 1; b < len(l.Points); b++ {
			if !yield(b-1, b) {
				return
			}
		}
	}
}

// pairs yields each two points a before b, those with the least b first, and of these those with the greatest a.
func (l looked) pairs() iter.Seq2[int, int] {
	return func(yield func(a, b int) bool) {
		for b := range l.Points {
			for a := b - 1; a >= 0; a-- {
				if !yield(a, b) {
					return
				}
			}
		}
	}
}

// apart returns by how much the heights of two points have to differ at least.
func (l looked) apart(a, b int) int {
	p, q := l.Points[a], l.Points[b]
	return max(0, p.Lo-q.Hi, q.Lo-p.Hi)
}

// why returns why a surface is not good at a point.
func (l looked) why(surface []int, at int) int {
	p, height := l.Points[at], surface[at]
	switch {
	case height < p.Lo:
		return api.CvLow
	case height > p.Hi:
		return api.CvHigh
	case at > 0 && !within(-l.Steep, l.Steep, height-surface[at-1]):
		return api.CvSteep
	}
	return api.CvGood
}

// bounds returns the heights that good surfaces have at each point, and whether any surface is good. If none is, a band
// ends before it begins.
func (l looked) bounds() (bands []api.Span, good bool) {
	for _, p := range l.Points {
		bands = append(bands, api.Span{Lo: p.Lo, Hi: p.Hi})
	}
	l.narrow(bands)
	bands = turned(bands)
	l.narrow(bands)
	bands = turned(bands)
	return bands, !slices.ContainsFunc(bands, func(b api.Span) bool { return b.Lo > b.Hi })
}

// narrow takes from each band what is too steep for the points on its left.
func (l looked) narrow(bands []api.Span) {
	for a, b := range l.neighbours() {
		bands[b].Lo = max(bands[b].Lo, bands[a].Lo-l.Steep)
		bands[b].Hi = min(bands[b].Hi, bands[a].Hi+l.Steep)
	}
}

// turned returns bands in the opposite order.
func turned(bands []api.Span) []api.Span {
	turned := make([]api.Span, len(bands))
	copy(turned, bands)
	slices.Reverse(turned)
	return turned
}
