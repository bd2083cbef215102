package carve_test

import (
	"iter"
	"slices"

	"hachure/api"
)

func span(lo, hi int) api.Span { return api.Span{Lo: lo, Hi: hi} }

func point(board, lo, hi int) api.CvPoint { return api.CvPoint{Board: board, Lo: lo, Hi: hi} }

func row(steep int, points ...api.CvPoint) api.CvRow { return api.CvRow{Steep: steep, Points: points} }

func pass(from, to int) api.CvPass { return api.CvPass{From: from, To: to} }

// hill is R of the chapter's examples with some Steep: with 2 it is R, with 1 it is S.
func hill(steep int) api.CvRow {
	return row(steep, point(10, 4, 8), point(10, 9, 12), point(6, 7, 9), point(12, 3, 6))
}

// plate is T of the chapter's examples.
func plate() api.CvRow { return row(0, point(10, 0, 20), point(8, 0, 20)) }

func clone(r api.CvRow) api.CvRow {
	r.Points = slices.Clone(r.Points)
	return r
}

func same(a, b api.CvRow) bool { return a.Steep == b.Steep && slices.Equal(a.Points, b.Points) }

// turned returns a row with its points in the opposite order.
func turned(r api.CvRow) api.CvRow {
	r = clone(r)
	slices.Reverse(r.Points)
	return r
}

// why returns the first point at which a surface is not good, and why.
func why(r api.CvRow, surface []int) (at, why int) {
	for i, p := range r.Points {
		if surface[i] < p.Lo {
			return i, api.CvLow
		}
		if surface[i] > p.Hi {
			return i, api.CvHigh
		}
		if i == 0 {
			continue
		}
		if up := surface[i] - surface[i-1]; up > r.Steep || -up > r.Steep {
			return i, api.CvSteep
		}
	}
	return 0, api.CvGood
}

// surfaces yields all good surfaces, the first ones first. The list is used again for the next ones.
func surfaces(r api.CvRow) iter.Seq[[]int] {
	return func(yield func([]int) bool) {
		surface := make([]int, len(r.Points))
		var from func(at int) bool
		from = func(at int) bool {
			if at == len(surface) {
				_, not := why(r, surface)
				return not != api.CvGood || yield(surface)
			}
			for surface[at] = r.Points[at].Lo; surface[at] <= r.Points[at].Hi; surface[at]++ {
				if !from(at + 1) {
					return false
				}
			}
			return true
		}
		from(0)
	}
}

// anyGood reports whether some surface is good.
func anyGood(r api.CvRow) bool {
	for range surfaces(r) {
		return true
	}
	return false
}

// plaster returns what a surface is filled by.
func plaster(r api.CvRow, surface []int) (sum int) {
	for i, p := range r.Points {
		if surface[i] > p.Board {
			sum += surface[i] - p.Board
		}
	}
	return sum
}

// depths returns by how much a surface is carved at each point.
func depths(r api.CvRow, surface []int) (list []int) {
	for i, p := range r.Points {
		list = append(list, max(p.Board-surface[i], 0))
	}
	return list
}

// digger tells how few passes lower points by so much, found by trying all passes.
type digger map[[4]int]int

func (d digger) fewest(deep [4]int) int {
	if deep == [4]int{} {
		return 0
	}
	if n, is := d[deep]; is {
		return n
	}
	least := 1 << 30
	for from := range deep {
		left := deep
		for to := from; to < len(deep) && left[to] > 0; to++ {
			left[to]--
			least = min(least, 1+d.fewest(left))
		}
	}
	d[deep] = least
	return least
}

// count returns how many passes a surface has: the wall of each point to the one before it, as far as it goes down.
func count(depths []int) (sum int) {
	before := 0
	for _, deep := range depths {
		if deep > before {
			sum += deep - before
		}
		before = deep
	}
	return sum
}

// cut is a surface, its plaster and how many passes it has.
type cut struct {
	surface       []int
	plaster, many int
}

// best returns the best of all good surfaces, found by trying them all.
func best(r api.CvRow, passes bool) (best cut, is bool) {
	for surface := range surfaces(r) {
		c := cut{nil, plaster(r, surface), count(depths(r, surface))}
		order := []int{c.plaster - best.plaster, c.many - best.many}
		if passes {
			slices.Reverse(order)
		}
		if !is || slices.Compare(order, []int{0, 0}) < 0 {
			best, is = c, true
			best.surface = slices.Clone(surface)
		}
	}
	return best, is
}

// dice gives numbers that look random, and are the same in each run.
type dice uint64

func (d *dice) roll(n int) int {
	*d = *d*6364136223846793005 + 1442695040888963407
	return int(uint64(*d)>>33) % n
}

// from returns a number from lo to hi.
func (d *dice) from(lo, hi int) int { return lo + d.roll(hi-lo+1) }

// row returns a row whose heights are from 0 to high, and whose bands have at most wide heights and one. Some surface
// need not be good.
func (d *dice) row(points, high, wide int) api.CvRow {
	r := api.CvRow{Steep: d.roll(high/2 + 1)}
	for range points {
		p := point(d.from(0, high), d.from(0, high), 0)
		p.Hi = min(p.Lo+d.from(0, wide), high)
		r.Points = append(r.Points, p)
	}
	return r
}

// small returns a row all of whose surfaces can be gone through.
func (d *dice) small() api.CvRow { return d.row(d.from(1, 4), 9, 5) }

// gentle returns a row for which some surface is good: the bands lie around one. It is as long and as high as can be.
func (d *dice) gentle(wide int) (r api.CvRow, surface []int) {
	r.Steep = d.roll(20)
	height := d.from(0, api.MaxHeight)
	for range api.MaxCvPoints {
		height = min(max(height+d.from(-r.Steep, r.Steep), 0), api.MaxHeight)
		below := d.roll(wide + 1)
		p := point(height+d.from(-40, 40), max(height-below, 0), min(height+wide-below, api.MaxHeight))
		p.Board = min(max(p.Board, 0), api.MaxHeight)
		r.Points = append(r.Points, p)
		surface = append(surface, height)
	}
	return r, surface
}

// surface returns a surface of a row that need not be good, most of it within the bands.
func (d *dice) surface(r api.CvRow) (surface []int) {
	for _, p := range r.Points {
		height := d.from(p.Lo, p.Hi)
		if d.roll(8) == 0 {
			height = max(0, height+d.from(-5, 5))
		}
		surface = append(surface, min(height, api.MaxHeight))
	}
	return surface
}

// walk returns a good surface of a row with these bounds, going up and down at random.
func (d *dice) walk(r api.CvRow, bands []api.Span) (surface []int) {
	for i, b := range bands {
		if i > 0 {
			b = span(max(b.Lo, surface[i-1]-r.Steep), min(b.Hi, surface[i-1]+r.Steep))
		}
		surface = append(surface, d.from(b.Lo, b.Hi))
	}
	return surface
}
