package modeller_test

import (
	"fmt"
	"maps"
	"math"
	"slices"
	"strings"

	"hachure/api"
)

// dice gives numbers that look random, and are the same in each run.
type dice uint64

func (d *dice) roll(n int) int {
	*d = *d*6364136223846793005 + 1442695040888963407
	return int(uint64(*d)>>33) % n
}

// from returns a number from lo to hi.
func (d *dice) from(lo, hi int) int { return lo + d.roll(hi-lo+1) }

// one returns one of some things.
func one[T any](d *dice, of ...T) T { return of[d.roll(len(of))] }

// around returns a span that has a number, is from lo to hi, and at most wide.
func (d *dice) around(n, wide, lo, hi int) api.Span {
	below := d.roll(wide + 1)
	return span(max(lo, n-below), min(hi, n+d.roll(wide-below+1)))
}

// truth is what is so in a shop: nobody knows it.
type truth struct {
	heights, thick []int
	shrink         int
	sizes, wears   []int
	amounts        []int
}

// letters are the names of things.
func letters() []string { return []string{"a", "b1", "c-", "dd", "e", "f", "g", "h", "i"} }

// shop returns a shop, and what is so in it.
func (d *dice) shop() (s api.MdShop, w truth) {
	s.Sheet, w.heights = d.sheet()
	s.Stack, w.thick = d.stack()
	s.Rivers = d.rivers()
	s.Model = d.model()
	s.Scale = d.scale()
	s.Moulds = d.moulds(&w)
	s.Claim, w.amounts = d.claim()
	for range d.roll(6) {
		line := d.trueLine(s, w)
		if first, of, e := parsed(s, line); e == api.OK {
			b := fresh(clone(s))
			change(&b, first, of)
			if fault(b) == api.OK {
				s = b.Shop
			}
		}
	}
	return s, w
}

func (d *dice) sheet() (s api.ShSheet, heights []int) {
	s = api.ShSheet{Interval: one(d, 1, 7, 100), Points: letters()[:d.from(1, 8)]}
	high := one(d, 20, 1000, 9000)
	for i := range s.Points {
		heights = append(heights, d.from(0, high))
		if i > 0 && d.roll(3) == 0 {
			heights[i] = heights[i-1]
		}
	}
	return s, heights
}

func (d *dice) stack() (s api.SpStack, thick []int) {
	s.Air = d.around(d.from(0, 20), 5, 0, 100)
	for i := range d.from(1, 3) {
		thick = append(thick, one(d, 100, 300, 1000)+d.roll(9))
		s.Kinds = append(s.Kinds, api.SpKind{Name: letters()[i], Thick: d.around(thick[i], one(d, 3, 12), 1, 5000), Grow: d.roll(3), Have: d.roll(6)})
	}
	level := 0
	for range d.roll(4) {
		level += one(d, 300, 1000) + d.roll(50)
		s.Bands = append(s.Bands, span(level, level+one(d, 30, 100, 250)))
		level += 300
	}
	return s, thick
}

func (d *dice) rivers() (r []api.RvPoint) {
	for i := range d.from(1, 6) {
		p := api.RvPoint{Name: letters()[i], Down: api.RvMouth, Height: d.from(0, 30)}
		if i > 0 {
			p.Down, p.Least = d.roll(i), d.roll(9)
		}
		r = append(r, p)
	}
	return r
}

func (d *dice) model() api.PnModel {
	m := api.PnModel{W: d.from(1, 5), D: d.from(1, 3)}
	for range m.W * m.D {
		m.Heights = append(m.Heights, d.roll(25))
	}
	for x := range min(m.W, d.roll(5)) {
		length := d.roll(20)
		m.Pins = append(m.Pins, api.PnPin{Name: letters()[x], X: x, Y: d.roll(m.D), Length: length, Most: length + d.roll(80)})
	}
	for range d.roll(3) {
		m.Stands = append(m.Stands, api.PnStand{X: -d.from(1, 3), Y: d.from(-2, m.D), Eye: d.around(d.from(10, 60), 30, 0, 2000)})
	}
	return m
}

func (d *dice) scale() api.ScCase {
	c := api.ScCase{Kind: d.from(1, 3), Base: one(d, 0, 5, 500), Most: one(d, 0, 10, 300, 100000)}
	for range d.from(2, 4) {
		c.Heights = append(c.Heights, c.Base+d.roll(100))
	}
	for range d.roll(3) {
		c.Roads = append(c.Roads, api.ScRoad{From: 0, To: d.from(1, len(c.Heights)-1)})
	}
	return c
}

func (d *dice) moulds(w *truth) (s api.CaShop) {
	w.shrink = d.from(0, 30)
	s.Shrink = d.around(w.shrink, 4, 0, 100)
	for i := range d.from(1, 3) {
		w.sizes, w.wears = append(w.sizes, one(d, 1, 500, 1500)+d.roll(9)), append(w.wears, d.roll(5))
		s.Moulds = append(s.Moulds, api.CaMould{Name: letters()[i], Size: d.around(w.sizes[i], 6, 1, 20000), Wear: d.around(w.wears[i], 3, 0, 20), Casts: d.from(1, 8)})
	}
	return s
}

func (d *dice) claim() (c api.BkClaim, amounts []int) {
	for i := range d.from(1, 4) {
		c.Features = append(c.Features, api.BkFeature{Name: letters()[i], Nominal: one(d, 500, 3000), Err: d.roll(3)})
	}
	for i := range d.roll(4) {
		amounts = append(amounts, d.from(1, 5)*d.roll(2))
		c.Causes = append(c.Causes, api.BkCause{Name: letters()[i], Amount: d.around(max(1, amounts[i]), 4, 1, 50)})
		for range c.Features {
			c.Causes[i].Per = append(c.Causes[i].Per, d.from(-6, 6))
		}
	}
	return c, amounts
}

// level returns the level of counts in some air.
func (w truth) level(s api.MdShop, counts []int, air int) (level int) {
	for i, k := range s.Stack.Kinds {
		level += counts[i] * (w.thick[i] + k.Grow*air)
	}
	return level
}

// size returns the size of a cast.
func (w truth) size(mould, cast int) int {
	wet := w.sizes[mould] + cast*w.wears[mould]
	return wet - wet*w.shrink/1000
}

// length returns the length of a feature.
func (w truth) length(s api.MdShop, feature int) int {
	length := s.Claim.Features[feature].Nominal
	for i, c := range s.Claim.Causes {
		length += w.amounts[i] * c.Per[feature]
	}
	return length
}

// trueLine returns a line that changes the books of a shop, and is true.
func (d *dice) trueLine(s api.MdShop, w truth) string {
	switch d.roll(6) {
	case 0, 1:
		return d.trueNote(s, w)
	case 2:
		return d.trueStack(s, w)
	case 3:
		m := d.roll(len(s.Moulds.Moulds))
		cast := d.roll(s.Moulds.Moulds[m].Casts)
		return words("cast", s.Moulds.Moulds[m].Name, cast, d.around(w.size(m, cast), 3, 0, 20000))
	case 4:
		f := d.roll(len(s.Claim.Features))
		err := s.Claim.Features[f].Err
		return words("back", s.Claim.Features[f].Name, w.length(s, f)+d.from(-err, err))
	}
	if len(s.Model.Pins) > 0 && d.roll(2) == 0 {
		p := one(d, s.Model.Pins...)
		return words("pin", p.Name, d.from(0, p.Most))
	}
	return words("river", one(d, s.Rivers...).Name, d.from(0, 40))
}

// words joins words, numbers and spans.
func words(of ...any) string {
	var list []string
	for _, x := range of {
		if by, is := x.(api.Span); is {
			x = fmt.Sprint(by.Lo, by.Hi)
		}
		list = append(list, fmt.Sprint(x))
	}
	return strings.Join(list, " ")
}

// trueNote returns a note of the sheet.
func (d *dice) trueNote(s api.MdShop, w truth) string {
	a, b := d.roll(len(w.heights)), d.roll(len(w.heights))
	h, name, interval := w.heights[a], s.Sheet.Points[a], s.Sheet.Interval
	switch {
	case d.roll(2) == 0 && (h/interval+1)*interval <= 9000:
		return words("contour", name, h/interval, h/interval+1)
	case a != b && h == w.heights[b]:
		return words("lake", name, s.Sheet.Points[b])
	case a != b && d.roll(3) > 0:
		return words("slope", name, s.Sheet.Points[b], d.around(h-w.heights[b], 20, -9000, 9000))
	}
	return words("spot", name, d.around(h, 30, 0, 9000))
}

// trueStack returns a measure of a stack.
func (d *dice) trueStack(s api.MdShop, w truth) string {
	counts := make([]int, len(s.Stack.Kinds))
	for i := range counts {
		counts[i] = d.roll(5)
	}
	counts[d.roll(len(counts))]++
	air := d.roll(30)
	line := words("stack", air, d.around(w.level(s, counts, air), 6, 0, 400000))
	for _, n := range counts {
		line = words(line, n)
	}
	return line
}

// number returns a number that a line can have.
func (d *dice) number() int {
	return one(d, 0, 1, 2, 3, 5, 9, 10, 40, 300, 990, 1000, 9000, 9001, 20001, 400001, 999999999, -1, -7, -9000, -9001, -999999999, d.roll(12), d.roll(2000))
}

// wild returns a line of some form, with any names and numbers.
func (d *dice) wild(s api.MdShop, forms map[string]string) string {
	first := one(d, slices.Sorted(maps.Keys(forms))...)
	line := first
	for _, what := range forms[first] {
		switch named := names(s, what); {
		case what == number:
			line = words(line, d.number())
		case len(named) == 0 || d.roll(15) == 0:
			line = words(line, one(d, "moor", "A", "zz", "b1"))
		default:
			line = words(line, one(d, named...))
		}
	}
	return line
}

// ask returns a line that asks.
func (d *dice) ask(s api.MdShop) string { return d.wild(s, asking()) }

// torn returns a line with some bytes taken out, put in, or changed.
func (d *dice) torn(line string) string {
	for range d.from(1, 2) {
		at := d.roll(len(line) + 1)
		put := one(d, "", " ", "-", "0", "5", "a", "\n", "\x00", "\xff", " 1", " a")
		line = line[:at] + put + line[min(len(line), at+d.roll(3)):]
	}
	return line
}

// line returns a line of any sort, most often one that is true.
func (d *dice) line(s api.MdShop, w truth) string {
	switch d.roll(10) {
	case 0, 1:
		return d.ask(s)
	case 2:
		return d.wild(s, changing(s))
	case 3:
		return d.torn(one(d, d.trueLine(s, w), d.ask(s), d.wild(s, changing(s))))
	}
	return d.trueLine(s, w)
}

// lines returns so many lines of any sort.
func (d *dice) lines(s api.MdShop, w truth, many int) (lines []string) {
	for range many {
		lines = append(lines, d.line(s, w))
	}
	return lines
}

// odd returns a number that may be far beyond the limits.
func (d *dice) odd() int {
	return one(d, math.MinInt, -9001, -1, 0, 1, 2, 3, 8, 100, 1000, 9000, 400001, math.MaxInt)
}
