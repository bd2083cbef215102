package scale

import (
	"iter"
	"slices"

	"hachure/api"
)

// The names of roundings, by which they lie in their table.
const (
	down = iota
	near
	up
)

// rounding is how heights are rounded: its Kind, and what a number divided by another one is rounded to.
type rounding struct {
	kind  int
	round func(n, by int) int
}

// roundings returns all roundings. No n is below 0, so it is enough that a division drops the rest.
func roundings() []rounding {
	return []rounding{
		down: {api.ScDown, func(n, by int) int { return n / by }},
		near: {api.ScNear, func(n, by int) int { return (2*n + by) / (2 * by) }},
		up:   {api.ScUp, func(n, by int) int { return (n + by - 1) / by }},
	}
}

// roundingOf returns the rounding of a Kind, and whether there is one.
func roundingOf(kind int) (rounding, bool) {
	return first(slices.Values(roundings()), func(r rounding) bool { return r.kind == kind })
}

// looked is a case that is looked at, and how its heights are rounded.
type looked struct {
	api.ScCase
	rounding
}

// look returns a case that is looked at, or its error.
func look(c api.ScCase) (looked, api.Errno) {
	if _, _, e := Check(c); e != api.OK {
		return looked{}, e
	}
	r, _ := roundingOf(c.Kind)
	return looked{c, r}, api.OK
}

// rise returns by how much a road rises.
func (l looked) rise(r api.ScRoad) int { return l.Heights[r.To] - l.Heights[r.From] }

// cuts are the cut of each point. Where there is no point they are 0.
type cuts [api.MaxScPoints]int

// only returns the cuts of some points, those of all others being 0.
func (c cuts) only(points []int) (only cuts) {
	for _, p := range points {
		only[p] = c[p]
	}
	return only
}

// model is a case that is looked at, cut with a scale.
type model struct {
	looked
	scale api.ScScale
	cuts  cuts
}

// with returns the model with a scale.
func (l looked) with(s api.ScScale) model {
	m := model{looked: l, scale: s}
	for i, height := range l.Heights {
		m.cuts[i] = l.round((height-l.Base)*s.Up, s.Down)
	}
	return m
}

// models yields the models with those of the scales that fit on the board.
func (l looked) models(scales iter.Seq[api.ScScale]) iter.Seq[model] {
	return func(yield func(model) bool) {
		for s := range scales {
			if m := l.with(s); m.fits() && !yield(m) {
				return
			}
		}
	}
}

// withEach returns the model with each of some scales, or the error of the first scale with one.
func (l looked) withEach(scales ...api.ScScale) ([]model, api.Errno) {
	var models []model
	for _, s := range scales {
		if e := scaleFault(s); e != api.OK {
			return nil, e
		}
		models = append(models, l.with(s))
	}
	return models, api.OK
}

// lookWith returns the model of a case with a scale, or the error of the case, or of the scale.
func lookWith(c api.ScCase, s api.ScScale) (model, api.Errno) {
	l, e := look(c)
	if e != api.OK {
		return model{}, e
	}
	models, e := l.withEach(s)
	if e != api.OK {
		return model{}, e
	}
	return models[0], api.OK
}

// fits reports whether the scale fits on the board.
func (m model) fits() bool { return slices.Max(m.cuts[:]) <= m.Most }

// risen returns by how much a road rises on the model.
func (m model) risen(r api.ScRoad) int { return m.cuts[r.To] - m.cuts[r.From] }

// flat reports whether a road is flat.
func (m model) flat(r api.ScRoad) bool { return m.rise(r) != 0 && m.risen(r) == 0 }

// falseBy returns by how much a road is false.
func (m model) falseBy(r api.ScRoad) int {
	should := m.scale.Up * m.rise(r)
	if should == 0 {
		return 0
	}
	off := size(m.scale.Down*m.risen(r) - should)
	return roundings()[up].round(off*1000, size(should))
}

// size returns a number without its sign.
func size(n int) int { return max(n, -n) }

// excludedBy reports whether the scale does not agree with a mark.
func (m model) excludedBy(mark api.ScMark) bool {
	return !within(mark.Cut.Lo, mark.Cut.Hi, m.cuts[mark.Point])
}
