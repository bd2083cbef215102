package pin_test

import (
	"iter"
	"slices"

	"hachure/api"
)

func span(lo, hi int) api.Span { return api.Span{Lo: lo, Hi: hi} }

func stick(name string, x, y, length, most int) api.PnPin {
	return api.PnPin{Name: name, X: x, Y: y, Length: length, Most: most}
}

func stand(x, y, lo, hi int) api.PnStand { return api.PnStand{X: x, Y: y, Eye: span(lo, hi)} }

// names are those of the pins that tests make.
func names() []string { return []string{"oak", "elm", "ash", "fir", "yew", "box"} }

// sample is M of the chapter's examples.
func sample() api.PnModel {
	return api.PnModel{W: 4, D: 2, Heights: []int{0, 10, 0, 20, 0, 0, 0, 0},
		Pins:   []api.PnPin{stick("oak", 0, 0, 30, 60), stick("elm", 2, 0, 26, 100), stick("ash", 3, 0, 5, 40)},
		Stands: []api.PnStand{stand(-2, 0, 30, 100)}}
}

// clone returns a model that shares no memory with another one.
func clone(m api.PnModel) api.PnModel {
	m.Heights, m.Pins, m.Stands = slices.Clone(m.Heights), slices.Clone(m.Pins), slices.Clone(m.Stands)
	return m
}

// equal reports whether two models are the same.
func equal(a, b api.PnModel) bool {
	return a.W == b.W && a.D == b.D && slices.Equal(a.Heights, b.Heights) && slices.Equal(a.Pins, b.Pins) && slices.Equal(a.Stands, b.Stands)
}

// long returns a model whose pins are so long, and may be longer if they have to.
func long(m api.PnModel, lengths []int) api.PnModel {
	m = clone(m)
	for i, n := range lengths {
		m.Pins[i].Length, m.Pins[i].Most = n, max(n, m.Pins[i].Most)
	}
	return m
}

// lengthsOf returns the Length of each pin.
func lengthsOf(m api.PnModel) (l []int) {
	for _, p := range m.Pins {
		l = append(l, p.Length)
	}
	return l
}

// without returns a model without some pins.
func without(m api.PnModel, off ...int) api.PnModel {
	left := clone(m)
	left.Pins = nil
	for i, p := range m.Pins {
		if !slices.Contains(off, i) {
			left.Pins = append(left.Pins, p)
		}
	}
	return left
}

// topOf returns the top of the field at X and Y.
func topOf(m api.PnModel, x, y int) int {
	top := m.Heights[y*m.W+x]
	for _, p := range m.Pins {
		if p.X == x && p.Y == y {
			top += p.Length
		}
	}
	return top
}

// away returns how far two numbers are from each other.
func away(a, b int) int { return max(a-b, b-a) }

// hidden returns the fields that hide a pin from a place, the nearest first. All fields of the model are looked at: one is
// on the line if it lies in the same direction as the pin, and both nearer to the place and to the pin than these two are to
// each other. Distances are those in X and in Y together, of which a field on the line has the same part.
func hidden(m api.PnModel, x, y, eye, pin int) (list []int) {
	p := m.Pins[pin]
	distance := away(p.X, x) + away(p.Y, y)
	top, far := topOf(m, p.X, p.Y), map[int]int{}
	for field := range m.Heights {
		fx, fy := field%m.W, field/m.W
		from, to := away(fx, x)+away(fy, y), away(fx, p.X)+away(fy, p.Y)
		onLine := (fx-x)*(p.Y-y) == (fy-y)*(p.X-x) && from+to == distance && from > 0 && to > 0
		if onLine && topOf(m, fx, fy)*distance >= eye*to+top*from {
			list, far[field] = append(list, field), from
		}
	}
	slices.SortFunc(list, func(a, b int) int { return far[a] - far[b] })
	return list
}

// seenFrom returns the pins that are seen from a place, with eyes at some height.
func seenFrom(m api.PnModel, x, y, eye int) (pins []int) {
	for pin := range m.Pins {
		if len(hidden(m, x, y, eye, pin)) == 0 {
			pins = append(pins, pin)
		}
	}
	return pins
}

// surely returns the pins that are surely seen from a stand.
func surely(m api.PnModel, stand int) []int {
	s := m.Stands[stand]
	return seenFrom(m, s.X, s.Y, s.Eye.Lo)
}

// showsAll reports whether all pins are surely seen from all stands.
func showsAll(m api.PnModel) bool {
	for stand := range m.Stands {
		if len(surely(m, stand)) < len(m.Pins) {
			return false
		}
	}
	return true
}

// leastEye returns the least height of eyes with which a pin is seen from a stand, found by trying all; -1 if none will do.
func leastEye(m api.PnModel, stand, pin int) int {
	s := m.Stands[stand]
	for eye := range api.MaxPnEye + 1 {
		if len(hidden(m, s.X, s.Y, eye, pin)) == 0 {
			return eye
		}
	}
	return -1
}

// blocked returns the first stand from which a pin is not surely seen, and the field that hides it; or -1.
func blocked(m api.PnModel, pin int) (stand, field int) {
	for i, s := range m.Stands {
		if list := hidden(m, s.X, s.Y, s.Eye.Lo, pin); len(list) > 0 {
			return i, list[0]
		}
	}
	return -1, -1
}

// outcome is what all rounds come to: the lengths after each round, and, if the last one is stuck, what Stuck returns.
type outcome struct {
	lengths                   [][]int
	stuck                     bool
	round, pin, stand, height int
}

// last returns the lengths after the last round that is not stuck.
func (o outcome) last() []int { return o.lengths[len(o.lengths)-1] }

// rounds goes through the rounds, and makes a pin longer by 1 as long as it is hidden. The Mosts are as in the model.
func rounds(m api.PnModel) outcome {
	o := outcome{lengths: [][]int{lengthsOf(m)}}
	for {
		o.round++
		before, after := long(m, o.last()), slices.Clone(o.last())
		for pin, p := range m.Pins {
			one := clone(before)
			for {
				s, field := blocked(one, pin)
				if s < 0 {
					break
				}
				if one.Pins[pin].Length == p.Most {
					o.stuck, o.pin, o.stand, o.height = true, pin, s, field
					return o
				}
				one.Pins[pin].Length++
			}
			after[pin] = one.Pins[pin].Length
		}
		if slices.Equal(after, o.last()) {
			return o
		}
		o.lengths = append(o.lengths, after)
	}
}

// lists yields all lists with a number of each of some spans, the first ones first. The list is used again for the next one.
func lists(of []api.Span) iter.Seq[[]int] {
	return func(yield func([]int) bool) {
		list := make([]int, len(of))
		var from func(i int) bool
		from = func(i int) bool {
			if i == len(of) {
				return yield(list)
			}
			for list[i] = of[i].Lo; list[i] <= of[i].Hi; list[i]++ {
				if !from(i + 1) {
					return false
				}
			}
			return true
		}
		from(0)
	}
}

// allLengths yields all lengths of pins, from Length to Most.
func allLengths(m api.PnModel) iter.Seq[[]int] {
	var of []api.Span
	for _, p := range m.Pins {
		of = append(of, span(p.Length, p.Most))
	}
	return lists(of)
}

// ascending returns all ascending lists of so many of the first numbers, the first ones first.
func ascending(many, of int) (all [][]int) {
	for list := range lists(slices.Repeat([]api.Span{span(0, of-1)}, many)) {
		rises := true
		for i := 1; i < many; i++ {
			rises = rises && list[i-1] < list[i]
		}
		if rises {
			all = append(all, slices.Clone(list))
		}
	}
	return all
}

// fewest returns the first of the shortest lists of the first numbers that does, and how many of that length do; and whether
// any does.
func fewest(of int, do func(list []int) bool) (found []int, ties int, is bool) {
	for many := range of + 1 {
		for _, list := range ascending(many, of) {
			if do(list) {
				if ties == 0 {
					found = list
				}
				ties++
			}
		}
		if ties > 0 {
			return found, ties, true
		}
	}
	return nil, 0, false
}

// covers reports whether each pin is surely seen from one of some stands.
func covers(m api.PnModel, stands []int) bool {
	seen := map[int]bool{}
	for _, s := range stands {
		for _, pin := range surely(m, s) {
			seen[pin] = true
		}
	}
	return len(seen) == len(m.Pins)
}

// beside yields the places beside a model, in the order in which Best looks at them.
func beside(m api.PnModel) iter.Seq2[int, int] {
	return func(yield func(x, y int) bool) {
		for y := -1; y <= m.D; y++ {
			for x := -1; x <= m.W; x++ {
				if field := 0 <= x && x < m.W && 0 <= y && y < m.D; !field && !yield(x, y) {
					return
				}
			}
		}
	}
}

// dice gives numbers that look random, and are the same in each run.
type dice uint64

func (d *dice) roll(n int) int {
	*d = *d*6364136223846793005 + 1442695040888963407
	return int(uint64(*d)>>33) % n
}

// from returns a number from lo to hi.
func (d *dice) from(lo, hi int) int { return lo + d.roll(hi-lo+1) }

// one returns one of some numbers.
func (d *dice) one(of ...int) int { return of[d.roll(len(of))] }

// hill returns a model of about so many fields in X and in Y, with so many pins, if there is room for them, and so many
// stands. It is at most so high, and its pins are at most so long and can be so much longer.
func (d *dice) hill(side, pins, stands, high, long, longer int) api.PnModel {
	m := api.PnModel{W: d.from(max(1, side-3), side), D: d.from(max(1, side-3), side)}
	for range m.W * m.D {
		m.Heights = append(m.Heights, d.from(0, high))
	}
	for i := range min(pins, m.W*m.D) {
		x, y := d.field(m)
		length := d.from(0, long)
		m.Pins = append(m.Pins, stick(names()[i], x, y, length, min(300, length+d.from(0, longer))))
	}
	for range stands {
		m.Stands = append(m.Stands, d.stand(m, high+long))
	}
	return m
}

// field returns X and Y of a field on which no pin is, mostly one in the row or the column of the first pin.
func (d *dice) field(m api.PnModel) (x, y int) {
	x, y = d.roll(m.W), d.roll(m.D)
	if len(m.Pins) > 0 {
		switch d.roll(4) {
		case 0:
			x = m.Pins[0].X
		case 1, 2:
			y = m.Pins[0].Y
		}
	}
	if slices.ContainsFunc(m.Pins, func(p api.PnPin) bool { return p.X == x && p.Y == y }) {
		return d.field(m)
	}
	return x, y
}

// stand returns a stand beside a model, mostly one from which a pin is some steps away, and with eyes that are about so high.
func (d *dice) stand(m api.PnModel, high int) api.PnStand {
	lo := d.from(0, high*d.one(0, 1, 2, 3)/2)
	s := stand(d.from(-20, 20), d.from(-20, 20), lo, lo+d.from(0, high))
	if len(m.Pins) > 0 && d.roll(4) > 0 {
		p, steps := m.Pins[d.roll(len(m.Pins))], d.from(2, 8)
		s.X, s.Y = p.X+steps*d.one(-2, -1, -1, 0, 1, 1, 2), p.Y+steps*d.one(-1, 0, 0, 0, 1)
	}
	field := 0 <= s.X && s.X < m.W && 0 <= s.Y && s.Y < m.D
	if field || away(s.X, 0) > 20 || away(s.Y, 0) > 20 {
		return d.stand(m, high)
	}
	return s
}

// sort returns a model of one of some sorts.
func (d *dice) sort(of ...func() api.PnModel) api.PnModel { return of[d.roll(len(of))]() }

// any returns a model of any sort.
func (d *dice) any() api.PnModel {
	return d.hill(d.one(3, 5, 8), d.roll(7), d.roll(6), d.one(0, 5, 40, 500), d.one(5, 40, 300), d.one(0, 10, 60, 300))
}

// flat returns a model in which pins hide each other.
func (d *dice) flat() api.PnModel {
	return d.hill(d.one(3, 4, 5), d.from(2, 6), d.from(1, 5), d.one(0, 5, 20), d.one(5, 20, 60), d.one(5, 30, 120, 300))
}

// small returns a model with few lengths of pins.
func (d *dice) small() api.PnModel {
	return d.hill(d.one(3, 4), d.from(1, 3), d.from(1, 3), d.one(0, 4, 8), d.one(2, 5, 9), d.one(2, 5, 9))
}

// walls returns a model in which few pins are seen from a stand: X and Y of all of them are even, so that there are fields
// between them, or places beside the model; and some fields are too high to look over.
func (d *dice) walls() api.PnModel {
	m := api.PnModel{W: d.from(5, 8), D: d.from(5, 8)}
	for range m.W * m.D {
		m.Heights = append(m.Heights, d.one(0, 500))
	}
	for i := range d.from(2, 6) {
		x, y := d.field(m)
		for x%2+y%2 > 0 {
			x, y = d.field(m)
		}
		m.Pins = append(m.Pins, stick(names()[i], x, y, d.from(0, 20), 20))
	}
	for range 5 {
		s := d.stand(m, 20)
		for s.X%2 != 0 || s.Y%2 != 0 {
			s = d.stand(m, 20)
		}
		m.Stands = append(m.Stands, s)
	}
	return m
}
