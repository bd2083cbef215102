package edge_test

import (
	"iter"
	"slices"

	"hachure/api"
)

func span(lo, hi int) api.Span { return api.Span{Lo: lo, Hi: hi} }

// join is an edge between a and b; heights are those on a and on b of one point after the other.
func join(a, b int, heights ...int) api.EdEdge {
	d := api.EdEdge{A: a, B: b}
	for i := 0; i < len(heights); i += 2 {
		d.Points = append(d.Points, api.EdPoint{A: heights[i], B: heights[i+1]})
	}
	return d
}

// survey is C of the chapter's examples, with further edges.
func survey(further ...api.EdEdge) api.EdCase {
	sheets := []api.EdSheet{{Name: "north", Weight: 2, Most: 6}, {Name: "mid", Weight: 3, Most: 6}, {Name: "south", Weight: 1, Most: 6}}
	edges := []api.EdEdge{join(0, 1, 100, 104, 200, 203), join(1, 2, 300, 302), join(0, 2, 400, 405)}
	return api.EdCase{Tol: 1, Sheets: sheets, Edges: append(edges, further...)}
}

// torn is D of the chapter's examples, with further edges.
func torn(further ...api.EdEdge) api.EdCase {
	return survey(append([]api.EdEdge{join(0, 2, 500, 500)}, further...)...)
}

// plain is three sheets with the Weight 1 and the Most 2, which have to have just the same heights.
func plain(edges ...api.EdEdge) api.EdCase {
	sheets := []api.EdSheet{{Name: "a", Weight: 1, Most: 2}, {Name: "b", Weight: 1, Most: 2}, {Name: "c", Weight: 1, Most: 2}}
	return api.EdCase{Sheets: sheets, Edges: edges}
}

func clone(c api.EdCase) api.EdCase {
	c.Sheets, c.Edges = slices.Clone(c.Sheets), slices.Clone(c.Edges)
	for i := range c.Edges {
		c.Edges[i].Points = slices.Clone(c.Edges[i].Points)
	}
	return c
}

func same(a, b api.EdCase) bool {
	sameEdge := func(d, o api.EdEdge) bool { return d.A == o.A && d.B == o.B && slices.Equal(d.Points, o.Points) }
	return a.Tol == b.Tol && slices.Equal(a.Sheets, b.Sheets) && slices.EqualFunc(a.Edges, b.Edges, sameEdge)
}

// dice gives numbers that look random, and are the same in each run.
type dice uint64

func (d *dice) roll(n int) int {
	*d = *d*6364136223846793005 + 1442695040888963407
	return int(uint64(*d)>>33) % n
}

// from returns a number from lo to hi.
func (d *dice) from(lo, hi int) int { return lo + d.roll(hi-lo+1) }

// edge returns an edge between any two of some sheets.
func (d *dice) edge(sheets int) api.EdEdge {
	a := d.roll(sheets)
	return api.EdEdge{A: a, B: (a + 1 + d.roll(sheets-1)) % sheets}
}

// tale returns a case of sheets that were shifted from the true heights, and whose points are off by at most so many
// decimetres; and the changes that take these shifts back.
func (d *dice) tale(sheets, edges, most, off int) (api.EdCase, []int) {
	c := api.EdCase{Tol: d.roll(3)}
	back := make([]int, sheets)
	for i := range sheets {
		s := api.EdSheet{Name: string(rune('a' + i)), Weight: d.roll(6), Most: d.from(0, most)}
		c.Sheets = append(c.Sheets, s)
		back[i] = d.from(-s.Most, s.Most)
	}
	for range edges {
		e := d.edge(sheets)
		for range d.from(1, 4) {
			height := d.from(100, 8000)
			e.Points = append(e.Points, api.EdPoint{A: height - back[e.A] + d.from(-off, off), B: height - back[e.B] + d.from(-off, off)})
		}
		c.Edges = append(c.Edges, e)
	}
	return c, back
}

// wild returns a case of some sheets whose edges want what they want.
func (d *dice) wild(sheets, edges, most, apart int) api.EdCase {
	c, _ := d.tale(sheets, edges, most, 0)
	for i := range c.Edges {
		by := d.from(-apart, apart)
		for j := range c.Edges[i].Points {
			c.Edges[i].Points[j].A = 1000 * (j + 1)
			c.Edges[i].Points[j].B = 1000*(j+1) + by + d.roll(2)
		}
	}
	return c
}

// mixed returns one of several sorts of cases that are small enough for all their changes to be tried.
func (d *dice) mixed() api.EdCase {
	switch d.roll(4) {
	case 0:
		c, _ := d.tale(d.from(2, 4), d.roll(9), 3, 0)
		return c
	case 1:
		c, _ := d.tale(d.from(2, 4), d.roll(9), 3, 2)
		return c
	case 2:
		return d.wild(d.from(2, 3), d.roll(9), 6, 4)
	}
	return d.wild(d.from(2, 5), d.roll(9), 2, 3)
}

// all yields all changes of a case, the first ones first. The list is used again for the next ones.
func all(c api.EdCase) iter.Seq[[]int] {
	return func(yield func([]int) bool) {
		x := make([]int, len(c.Sheets))
		var from func(at int) bool
		from = func(at int) bool {
			if at == len(x) {
				return yield(x)
			}
			for x[at] = -c.Sheets[at].Most; x[at] <= c.Sheets[at].Most; x[at]++ {
				if !from(at + 1) {
					return false
				}
			}
			return true
		}
		from(0)
	}
}

// edgeAgrees reports whether an edge agrees with changes, point by point.
func edgeAgrees(c api.EdCase, d api.EdEdge, x []int) bool {
	for _, p := range d.Points {
		apart := p.A + x[d.A] - p.B - x[d.B]
		if apart > c.Tol || -apart > c.Tol {
			return false
		}
	}
	return true
}

// apart returns the edges that do not agree with changes.
func apart(c api.EdCase, x []int) (list []int) {
	for i, d := range c.Edges {
		if !edgeAgrees(c, d, x) {
			list = append(list, i)
		}
	}
	return list
}

// cost returns what changes cost.
func cost(c api.EdCase, x []int) (sum int) {
	for i, s := range c.Sheets {
		if x[i] < 0 {
			sum -= s.Weight * x[i]
		} else {
			sum += s.Weight * x[i]
		}
	}
	return sum
}

// dearest returns what all sheets cost, changed by their Most.
func dearest(c api.EdCase) (sum int) {
	for _, s := range c.Sheets {
		sum += s.Weight * s.Most
	}
	return sum
}

// wants returns the numbers that an edge wants, found by trying them; none, if it contradicts itself.
func wants(c api.EdCase, d api.EdEdge) (list []int) {
	for by := -9050; by <= 9050; by++ {
		x := make([]int, len(c.Sheets))
		x[d.A] = by
		if edgeAgrees(c, d, x) {
			list = append(list, by)
		}
	}
	return list
}

// tried is what is found of a case by trying all its changes.
type tried struct {
	any     bool
	ranges  []api.Span
	least   []int
	cost    int
	without []int
}

// try tries all changes of a case.
func try(c api.EdCase) (r tried) {
	first := true
	for x := range all(c) {
		list := apart(c, x)
		if first || len(list) < len(r.without) || len(list) == len(r.without) && slices.Compare(list, r.without) < 0 {
			r.without, first = list, false
		}
		if len(list) > 0 {
			continue
		}
		if !r.any {
			r.any, r.cost = true, cost(c, x)+1
			for _, n := range x {
				r.ranges = append(r.ranges, span(n, n))
			}
		}
		for i, n := range x {
			r.ranges[i] = span(min(r.ranges[i].Lo, n), max(r.ranges[i].Hi, n))
		}
		if sum := cost(c, x); sum < r.cost {
			r.least, r.cost = slices.Clone(x), sum
		}
	}
	return r
}

// bound returns the bound of a proof of a case without an edge that contradicts itself.
func bound(c api.EdCase, proof []int) (sum int) {
	for i, d := range c.Edges {
		greatest, least := -9000, 9000
		for _, p := range d.Points {
			greatest, least = max(greatest, p.B-p.A), min(least, p.B-p.A)
		}
		if proof[i] > 0 {
			sum += proof[i] * (greatest - c.Tol)
		}
		if proof[i] < 0 {
			sum += proof[i] * (least + c.Tol)
		}
	}
	for i, s := range c.Sheets {
		given := 0
		for j, d := range c.Edges {
			if d.A == i {
				given += proof[j]
			}
			if d.B == i {
				given -= proof[j]
			}
		}
		if given < 0 {
			given = -given
		}
		if given > s.Weight {
			sum -= s.Most * (given - s.Weight)
		}
	}
	return sum
}
