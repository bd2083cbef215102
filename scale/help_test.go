package scale_test

import (
	"slices"
	"sync"

	"hachure/api"
)

func span(lo, hi int) api.Span { return api.Span{Lo: lo, Hi: hi} }

func by(up, down int) api.ScScale { return api.ScScale{Up: up, Down: down} }

func road(from, to int) api.ScRoad { return api.ScRoad{From: from, To: to} }

func mark(point, lo, hi int) api.ScMark { return api.ScMark{Point: point, Cut: span(lo, hi)} }

// town is C of the chapter's examples with some Kind: with api.ScNear it is C.
func town(kind int) api.ScCase {
	return api.ScCase{Kind: kind, Base: 100, Most: 50, Heights: []int{100, 110, 125, 160}, Roads: []api.ScRoad{road(0, 1), road(1, 2), road(3, 2)}}
}

// kinds are the three Kinds.
func kinds() []int { return []int{api.ScDown, api.ScNear, api.ScUp} }

// slope is a case with Base 0, the highest Most, these heights, and a road from each of them to the next one.
func slope(kind int, heights ...int) api.ScCase {
	c := api.ScCase{Kind: kind, Most: api.MaxScCut, Heights: heights}
	for to := 1; to < len(heights); to++ {
		c.Roads = append(c.Roads, road(to-1, to))
	}
	return c
}

func clone(c api.ScCase) api.ScCase {
	c.Heights, c.Roads = slices.Clone(c.Heights), slices.Clone(c.Roads)
	return c
}

func same(a, b api.ScCase) bool {
	return a.Kind == b.Kind && a.Base == b.Base && a.Most == b.Most && slices.Equal(a.Heights, b.Heights) && slices.Equal(a.Roads, b.Roads)
}

// isScale reports whether no number from 2 on divides both parts.
func isScale(s api.ScScale) bool {
	for d := 2; d <= 30; d++ {
		if s.Up%d == 0 && s.Down%d == 0 {
			return false
		}
	}
	return true
}

// compare tells which one of two scales is the greater one.
func compare(a, b api.ScScale) int { return a.Up*b.Down - b.Up*a.Down }

// all returns all scales, the lesser ones first. They are found once.
var all = sync.OnceValue(func() (list []api.ScScale) {
	for up := 1; up <= 30; up++ {
		for down := 1; down <= 30; down++ {
			if s := by(up, down); isScale(s) {
				list = append(list, s)
			}
		}
	}
	slices.SortFunc(list, compare)
	return list
})

// isCut reports whether a number divided by another one is rounded to a cut, as a Kind says.
func isCut(kind, cut, n, by int) bool {
	switch kind {
	case api.ScDown:
		return cut*by <= n && n < (cut+1)*by
	case api.ScNear:
		return (2*cut-1)*by <= 2*n && 2*n < (2*cut+1)*by
	}
	return (cut-1)*by < n && n <= cut*by
}

// cuts returns the cut of each point, found by trying those that are near.
func cuts(c api.ScCase, s api.ScScale) (list []int) {
	for _, height := range c.Heights {
		n := (height - c.Base) * s.Up
		for cut := n/s.Down - 1; ; cut++ {
			if isCut(c.Kind, cut, n, s.Down) {
				list = append(list, cut)
				break
			}
		}
	}
	return list
}

func size(n int) int {
	if n < 0 {
		return -n
	}
	return n
}

// falses returns by how much each road is false.
func falses(c api.ScCase, s api.ScScale) (list []int) {
	l := cuts(c, s)
	for _, r := range c.Roads {
		should := s.Up * (c.Heights[r.To] - c.Heights[r.From])
		is := s.Down * (l[r.To] - l[r.From])
		if should == 0 {
			list = append(list, 0)
			continue
		}
		parts := max(0, 1000*size(is-should)/size(should)-1)
		for parts*size(should) < 1000*size(is-should) {
			parts++
		}
		list = append(list, parts)
	}
	return list
}

// flats returns the roads that are flat.
func flats(c api.ScCase, s api.ScScale) (list []int) {
	l := cuts(c, s)
	for i, r := range c.Roads {
		if c.Heights[r.From] != c.Heights[r.To] && l[r.From] == l[r.To] {
			list = append(list, i)
		}
	}
	return list
}

// fits reports whether no cut is above Most.
func fits(c api.ScCase, s api.ScScale) bool {
	return !slices.ContainsFunc(cuts(c, s), func(cut int) bool { return cut > c.Most })
}

// fitting returns the scales that fit on the board, the lesser ones first.
func fitting(c api.ScCase) (list []api.ScScale) {
	for _, s := range all() {
		if fits(c, s) {
			list = append(list, s)
		}
	}
	return list
}

// worst returns by how much the falsest road is false.
func worst(c api.ScCase, s api.ScScale) int { return slices.Max(append(falses(c, s), 0)) }

// greatest returns the greatest scale that fits with which no road is falser than limit, and whether there is one.
func greatest(c api.ScCase, limit int) (greatest api.ScScale, is bool) {
	for _, s := range fitting(c) {
		if worst(c, s) <= limit {
			greatest, is = s, true
		}
	}
	return greatest, is
}

// least returns the least scale that fits with which no road is flat, and whether there is one.
func least(c api.ScCase) (least api.ScScale, is bool) {
	for _, s := range fitting(c) {
		if len(flats(c, s)) == 0 {
			return s, true
		}
	}
	return least, false
}

// agrees reports whether a scale agrees with marks.
func agrees(c api.ScCase, s api.ScScale, marks []api.ScMark) bool {
	l := cuts(c, s)
	for _, m := range marks {
		if l[m.Point] < m.Cut.Lo || l[m.Point] > m.Cut.Hi {
			return false
		}
	}
	return true
}

// apart returns the points that tell two scales apart.
func apart(c api.ScCase, a, b api.ScScale) (points []int) {
	l, m := cuts(c, a), cuts(c, b)
	for i := range l {
		if l[i] != m[i] {
			points = append(points, i)
		}
	}
	return points
}

// told reports whether one of some points tells each two scales apart.
func told(c api.ScCase, l []api.ScScale, points []int) bool {
	for i, a := range l {
		for _, b := range l[:i] {
			if !slices.ContainsFunc(apart(c, a, b), func(p int) bool { return slices.Contains(points, p) }) {
				return false
			}
		}
	}
	return true
}

// subsets returns all ascending lists of so many points.
func subsets(points int) (lists [][]int) {
	for set := range 1 << points {
		var list []int
		for p := range points {
			if set>>p&1 == 1 {
				list = append(list, p)
			}
		}
		lists = append(lists, list)
	}
	return lists
}

// fewest returns the first of the shortest lists of points that tell scales apart, and whether there is one.
func fewest(c api.ScCase, l []api.ScScale) (fewest []int, is bool) {
	for _, list := range subsets(len(c.Heights)) {
		if !told(c, l, list) {
			continue
		}
		if !is || len(list) < len(fewest) || len(list) == len(fewest) && slices.Compare(list, fewest) < 0 {
			fewest, is = list, true
		}
	}
	return fewest, is
}

// dice gives numbers that look random, and are the same in each run.
type dice uint64

func (d *dice) roll(n int) int {
	*d = *d*6364136223846793005 + 1442695040888963407
	return int(uint64(*d)>>33) % n
}

// from returns a number from lo to hi.
func (d *dice) from(lo, hi int) int { return lo + d.roll(hi-lo+1) }

// scale returns any scale.
func (d *dice) scale() api.ScScale {
	for {
		if s := by(d.from(1, 30), d.from(1, 30)); isScale(s) {
			return s
		}
	}
}

// near returns so many scales that lie near each other, so that few points tell some of them apart.
func (d *dice) near(many int) (list []api.ScScale) {
	at, wide := d.roll(500), d.from(1, 10)
	for range many {
		list = append(list, all()[at])
		at += d.from(1, wide)
	}
	for i := range list {
		j := d.from(i, many-1)
		list[i], list[j] = list[j], list[i]
	}
	return list
}

// town returns a case whose heights are at most high above its Base. Some of its scales need not fit.
func (d *dice) town(high int) api.ScCase {
	c := api.ScCase{Kind: d.from(api.ScDown, api.ScUp), Base: d.roll(api.MaxHeight - high + 1)}
	for range d.from(1, api.MaxScPoints) {
		c.Heights = append(c.Heights, c.Base+d.from(0, high))
	}
	c.Most = d.from(0, slices.Max(c.Heights)-c.Base) * d.from(1, 60) / 10
	for range d.roll(api.MaxScRoads + 1) {
		r := road(d.roll(len(c.Heights)), d.roll(len(c.Heights)))
		if r.From != r.To {
			c.Roads = append(c.Roads, r)
		}
	}
	return c
}

// any returns a case that is low, or as high as can be.
func (d *dice) any() api.ScCase {
	highs := []int{3, 20, 60, 300, 9000}
	return d.town(highs[d.roll(len(highs))])
}

// marks returns marks around the cuts with a scale, each off by at most wide.
func (d *dice) marks(c api.ScCase, s api.ScScale, wide int) (marks []api.ScMark) {
	l := cuts(c, s)
	for range d.roll(api.MaxScMarks + 1) {
		p := d.roll(len(l))
		m := mark(p, l[p]-d.roll(wide+1), l[p]+d.roll(wide+1))
		marks = append(marks, mark(p, min(max(m.Cut.Lo, 0), api.MaxScCut), min(m.Cut.Hi, api.MaxScCut)))
	}
	return marks
}
