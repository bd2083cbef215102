package colour_test

import (
	"iter"
	"slices"

	"hachure/api"
)

func span(lo, hi int) api.Span { return api.Span{Lo: lo, Hi: hi} }

func pair(a, b int) api.ClPair { return api.ClPair{A: a, B: b} }

// spans and pairs return a list of them: both numbers of each, one after the other.
func spans(l ...int) (all []api.Span) {
	for i := 0; i+1 < len(l); i += 2 {
		all = append(all, span(l[i], l[i+1]))
	}
	return all
}

func pairs(l ...int) (all []api.ClPair) {
	for i := 0; i+1 < len(l); i += 2 {
		all = append(all, pair(l[i], l[i+1]))
	}
	return all
}

// sample is M of the chapter's examples.
func sample() api.ClMap {
	return api.ClMap{
		Borders: spans(100, 105, 200, 204), Step: 50,
		Heights: spans(90, 99, 98, 103, 104, 150, 190, 202, 210, 300),
		Sides:   pairs(0, 1, 1, 2, 2, 3, 3, 4),
		Inks:    3, Like: pairs(0, 1)}
}

// first is the legend of the chapter's examples.
func first() []int { return []int{100, 200} }

// clone returns a map that shares no memory with another one.
func clone(m api.ClMap) api.ClMap {
	m.Borders, m.Heights = slices.Clone(m.Borders), slices.Clone(m.Heights)
	m.Sides, m.Like = slices.Clone(m.Sides), slices.Clone(m.Like)
	return m
}

// equal reports whether two maps are the same.
func equal(a, b api.ClMap) bool {
	return slices.Equal(a.Borders, b.Borders) && a.Step == b.Step && slices.Equal(a.Heights, b.Heights) &&
		slices.Equal(a.Sides, b.Sides) && a.Inks == b.Inks && slices.Equal(a.Like, b.Like)
}

// has reports whether a span has a number.
func has(s api.Span, n int) bool { return s.Lo <= n && n <= s.Hi }

// inside reports whether a span has all numbers of another one.
func inside(outer, inner api.Span) bool { return has(outer, inner.Lo) && has(outer, inner.Hi) }

// bandOf returns the band of a height.
func bandOf(legend []int, height int) int {
	return len(slices.DeleteFunc(slices.Clone(legend), func(n int) bool { return n > height }))
}

// alike reports whether two inks are alike.
func alike(m api.ClMap, a, b int) bool {
	return a == b || slices.Contains(m.Like, pair(a, b)) || slices.Contains(m.Like, pair(b, a))
}

// lists yields all lists with a number of each of some spans, the first ones first. The list is used again for the next one.
func lists(of []api.Span) iter.Seq[[]int] {
	return func(yield func([]int) bool) {
		list := make([]int, len(of))
		var from func(i int) bool
		from = func(i int) bool {
			if i == len(of) {
				return yield(list)
			}
			for list[i] = of[i].Lo; list[i] <= of[i].Hi; list[i]++ {
				if !from(i + 1) {
					return false
				}
			}
			return true
		}
		from(0)
	}
}

// truths yields all truths: the height of each point.
func truths(m api.ClMap) iter.Seq[[]int] { return lists(m.Heights) }

// many returns how many lists there are with a number of each of some spans.
func many(of []api.Span) int {
	n := 1
	for _, s := range of {
		n *= s.Hi - s.Lo + 1
	}
	return n
}

// legends yields all legends.
func legends(m api.ClMap) iter.Seq[[]int] {
	return func(yield func([]int) bool) {
		for list := range lists(m.Borders) {
			is := true
			for i := range list[1:] {
				is = is && list[i+1]-list[i] >= m.Step
			}
			if is && !yield(list) {
				return
			}
		}
	}
}

// allInks yields all inks of a legend, the first ones first.
func allInks(m api.ClMap) iter.Seq[[]int] {
	return lists(slices.Repeat([]api.Span{span(0, m.Inks-1)}, len(m.Borders)+1))
}

// could are the bands in which each point is in some truth, and the pairs of bands in which the points of each side are in
// some truth.
type could struct {
	bands []map[int]bool
	sides []map[api.ClPair]bool
}

// found returns them, found by trying all truths.
func found(m api.ClMap, legend []int) (c could) {
	for range m.Heights {
		c.bands = append(c.bands, map[int]bool{})
	}
	for range m.Sides {
		c.sides = append(c.sides, map[api.ClPair]bool{})
	}
	for t := range truths(m) {
		for i, height := range t {
			c.bands[i][bandOf(legend, height)] = true
		}
		for i, s := range m.Sides {
			c.sides[i][pair(bandOf(legend, t[s.A]), bandOf(legend, t[s.B]))] = true
		}
	}
	return c
}

// unsure returns the points that are in several bands.
func (c could) unsure() (points []int) {
	for i, bands := range c.bands {
		if len(bands) > 1 {
			points = append(points, i)
		}
	}
	return points
}

// meets returns the pairs of different bands in which the points of some side are.
func (c could) meets() (l []api.ClPair) {
	for a := range 6 {
		for b := a + 1; b < 6; b++ {
			if slices.ContainsFunc(c.sides, func(s map[api.ClPair]bool) bool { return s[pair(a, b)] || s[pair(b, a)] }) {
				l = append(l, pair(a, b))
			}
		}
	}
	return l
}

// mistaken returns the sides whose points are in different bands with inks that are alike.
func (c could) mistaken(m api.ClMap, inks []int) (l []int) {
	for i, s := range c.sides {
		for p := range s {
			if p.A != p.B && alike(m, inks[p.A], inks[p.B]) {
				l = append(l, i)
				break
			}
		}
	}
	return l
}

// different returns how many different inks there are.
func different(inks []int) int {
	inks = slices.Sorted(slices.Values(inks))
	return len(slices.Compact(inks))
}

// paint returns the first painting of those with the fewest different inks, found by trying all inks; nil if there is none.
func (c could) paint(m api.ClMap) (best []int) {
	for inks := range allInks(m) {
		if len(c.mistaken(m, inks)) == 0 && (best == nil || different(inks) < different(best)) {
			best = slices.Clone(inks)
		}
	}
	return best
}

// unsureOf returns how many points are not sure with a legend: those whose ends are in different bands.
func unsureOf(m api.ClMap, legend []int) (many int) {
	for _, s := range m.Heights {
		if bandOf(legend, s.Lo) != bandOf(legend, s.Hi) {
			many++
		}
	}
	return many
}

// best returns the first legend with the fewest points that are not sure, found by trying all legends; nil if there is none.
// Also returned is how many legends have as few.
func best(m api.ClMap) (legend []int, unsure, ties int) {
	for l := range legends(m) {
		switch n := unsureOf(m, l); {
		case legend == nil || n < unsure:
			legend, unsure, ties = slices.Clone(l), n, 1
		case n == unsure:
			ties++
		}
	}
	return legend, unsure, ties
}

// dice gives numbers that look random, and are the same in each run.
type dice uint64

func (d *dice) roll(n int) int {
	*d = *d*6364136223846793005 + 1442695040888963407
	return int(uint64(*d)>>33) % n
}

// from returns a number from lo to hi.
func (d *dice) from(lo, hi int) int { return lo + d.roll(hi-lo+1) }

// within returns a span of at most wide from lo to hi.
func (d *dice) within(lo, hi, wide int) api.Span {
	from := d.from(lo, hi)
	return span(from, min(hi, from+d.roll(wide+1)))
}

// shuffled returns a list in another order.
func shuffled[T any](d *dice, list []T) []T {
	list = slices.Clone(list)
	for i := range list {
		j := i + d.roll(len(list)-i)
		list[i], list[j] = list[j], list[i]
	}
	return list
}

// pairs returns so many pairs of two of so many things, or none, if there are no two.
func (d *dice) pairs(many, of int) (l []api.ClPair) {
	if of < 2 {
		return nil
	}
	for range many {
		a := d.roll(of)
		l = append(l, pair(a, (a+d.from(1, of-1))%of))
	}
	return l
}

// hill returns a map with so many borders, which are at most so wide, and about as far apart as they have to be; and with so
// many points, whose heights are about the borders and at most so wide.
func (d *dice) hill(borders, wide, points, high int) api.ClMap {
	step := []int{1, 2, 5, 30, 1000}[d.roll(5)]
	m := api.ClMap{Step: step, Inks: d.from(1, 6)}
	least := []int{0, 20, 400, 8940}[d.roll(4)]
	at, reach := least, []int{1, 5, 20}[d.roll(3)]
	for range borders {
		m.Borders = append(m.Borders, d.within(min(at, 8980), min(at+reach, 9000), wide))
		at += max(0, step+d.from(-reach, reach)/3)
	}
	for range points {
		near := m.Borders[d.roll(borders)]
		m.Heights = append(m.Heights, d.within(max(0, near.Lo-high), min(near.Hi+4, 9000), high))
	}
	m.Sides, m.Like = d.pairs(d.roll(11), points), d.pairs(d.roll(9), m.Inks)
	return m
}

// any returns a map of any sort.
func (d *dice) any() api.ClMap {
	return d.hill(d.from(1, 5), d.from(0, 20), d.from(1, 8), []int{0, 3, 4, 8, 15, 60, 2000}[d.roll(7)])
}

// legend returns a legend of a map, and whether it has any.
func (d *dice) legend(m api.ClMap) (legend []int, is bool) {
	// What each number may be at most, such that there is room for those above it.
	room := slices.Clone(m.Borders)
	for i := len(room) - 2; i >= 0; i-- {
		room[i].Hi = min(room[i].Hi, room[i+1].Hi-m.Step)
	}
	for i, s := range room {
		if i > 0 {
			s.Lo = max(s.Lo, legend[i-1]+m.Step)
		}
		if s.Lo > s.Hi {
			return nil, false
		}
		legend = append(legend, d.from(s.Lo, s.Hi))
	}
	return legend, true
}

// drawn returns a map of any sort that has a legend, and one of its legends.
func (d *dice) drawn() (api.ClMap, []int) {
	for {
		m := d.any()
		if legend, is := d.legend(m); is {
			return m, legend
		}
	}
}

// small returns a map with few truths, and one of its legends.
func (d *dice) small() (api.ClMap, []int) {
	for {
		m := d.hill(d.from(1, 5), d.from(0, 20), d.from(1, 5), d.from(0, 12))
		if legend, is := d.legend(m); is && many(m.Heights) <= 400 {
			return m, legend
		}
	}
}

// narrow returns a map with few lists of numbers of its borders.
func (d *dice) narrow() api.ClMap {
	for {
		m := d.any()
		if many(m.Borders) <= 3000 {
			return m
		}
	}
}

// truth returns a truth of a map.
func (d *dice) truth(m api.ClMap) (t []int) {
	for _, s := range m.Heights {
		t = append(t, d.from(s.Lo, s.Hi))
	}
	return t
}

// inks returns any inks of a legend.
func (d *dice) inks(m api.ClMap) (inks []int) {
	for range len(m.Borders) + 1 {
		inks = append(inks, d.roll(m.Inks))
	}
	return inks
}
