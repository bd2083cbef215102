package cast_test

import (
	"iter"
	"math/bits"
	"slices"

	"hachure/api"
)

func span(lo, hi int) api.Span { return api.Span{Lo: lo, Hi: hi} }

// mould is a mould that gives so many casts.
func mould(name string, size, wear api.Span, casts int) api.CaMould {
	return api.CaMould{Name: name, Size: size, Wear: wear, Casts: casts}
}

// was is a cast that was measured.
func was(mould, cast, lo, hi int) api.CaSeen {
	return api.CaSeen{Mould: mould, Cast: cast, Size: span(lo, hi)}
}

func at(mould, cast int) api.CaPlace { return api.CaPlace{Mould: mould, Cast: cast} }

// hills is S of the chapter's examples.
func hills() api.CaShop {
	return api.CaShop{Shrink: span(10, 12), Moulds: []api.CaMould{
		mould("hill", span(1000, 1002), span(2, 3), 4),
		mould("vale", span(1010, 1010), span(0, 0), 2)}}
}

// a is A of the chapter's examples.
func a() []api.CaSeen { return []api.CaSeen{was(1, 0, 998, 998)} }

// contrary is a cast that hills cannot have.
func contrary() []api.CaSeen { return []api.CaSeen{was(1, 0, 0, 997)} }

// exact is a shop of which all is known: nothing shrinks, each mould is worn by 10, and has the sizes from one on that it
// has so many casts. The numbers are a size and how many casts, one after the other.
func exact(numbers ...int) (s api.CaShop) {
	for i := 0; i < len(numbers); i += 2 {
		s.Moulds = append(s.Moulds, mould(string(rune('a'+i/2)), span(numbers[i], numbers[i]), span(10, 10), numbers[i+1]))
	}
	return s
}

// order is an order, whose pieces are given by both ends, one after the other.
func order(ends ...int) (l []api.Span) {
	for i := 0; i < len(ends); i += 2 {
		l = append(l, span(ends[i], ends[i+1]))
	}
	return l
}

// places are casts, given by mould and number, one after the other.
func places(numbers ...int) (l []api.CaPlace) {
	for i := 0; i < len(numbers); i += 2 {
		l = append(l, at(numbers[i], numbers[i+1]))
	}
	return l
}

// has reports whether a span has a number.
func has(s api.Span, n int) bool { return s.Lo <= n && n <= s.Hi }

// inside reports whether a span has all numbers of another one.
func inside(outer, inner api.Span) bool { return has(outer, inner.Lo) && has(outer, inner.Hi) }

// casts returns all casts of a shop, by moulds, then by their numbers.
func casts(s api.CaShop) (l []api.CaPlace) {
	for i, m := range s.Moulds {
		for cast := range m.Casts {
			l = append(l, at(i, cast))
		}
	}
	return l
}

// truth is a number of Shrink, and of Size and Wear of each mould, one after the other.
type truth []int

// size returns the size of a cast.
func (t truth) size(p api.CaPlace) int {
	before := t[1+2*p.Mould] + p.Cast*t[2+2*p.Mould]
	return before - before*t[0]/1000
}

// agrees reports whether the sizes of casts that were measured are so.
func (t truth) agrees(seen []api.CaSeen) bool {
	return !slices.ContainsFunc(seen, func(c api.CaSeen) bool { return !has(c.Size, t.size(at(c.Mould, c.Cast))) })
}

// spans returns the spans from which a truth has its numbers.
func spans(s api.CaShop) []api.Span {
	l := []api.Span{s.Shrink}
	for _, m := range s.Moulds {
		l = append(l, m.Size, m.Wear)
	}
	return l
}

// truths yields all truths that agree. The truth is used again for the next one.
func truths(s api.CaShop, seen []api.CaSeen) iter.Seq[truth] {
	return func(yield func(truth) bool) {
		spans := spans(s)
		t := make(truth, len(spans))
		var from func(i int) bool
		from = func(i int) bool {
			if i == len(t) {
				return !t.agrees(seen) || yield(t)
			}
			for t[i] = spans[i].Lo; t[i] <= spans[i].Hi; t[i]++ {
				if !from(i + 1) {
					return false
				}
			}
			return true
		}
		from(0)
	}
}

// known is what all truths that agree say: the numbers of Shrink, and the least and the greatest size of each cast.
type known struct {
	shrinks []int
	sizes   map[api.CaPlace]api.Span
}

// all returns what is known of a shop, found by trying all truths.
func all(s api.CaShop, seen []api.CaSeen) known {
	k := known{sizes: map[api.CaPlace]api.Span{}}
	for t := range truths(s, seen) {
		if !slices.Contains(k.shrinks, t[0]) {
			k.shrinks = append(k.shrinks, t[0])
		}
		for _, p := range casts(s) {
			n := t.size(p)
			if is, found := k.sizes[p]; found {
				k.sizes[p] = span(min(is.Lo, n), max(is.Hi, n))
			} else {
				k.sizes[p] = span(n, n)
			}
		}
	}
	return k
}

// fits returns for each piece the casts that fit it.
func (k known) fits(s api.CaShop, order []api.Span) (fits [][]api.CaPlace) {
	for _, piece := range order {
		var l []api.CaPlace
		for _, p := range casts(s) {
			if inside(piece, k.sizes[p]) {
				l = append(l, p)
			}
		}
		fits = append(fits, l)
	}
	return fits
}

// plans yields all plans in which each piece has a cast that fits it, the first ones first.
func plans(fits [][]api.CaPlace) iter.Seq[[]api.CaPlace] {
	return func(yield func([]api.CaPlace) bool) {
		var from func(plan []api.CaPlace) bool
		from = func(plan []api.CaPlace) bool {
			if len(plan) == len(fits) {
				return yield(slices.Clone(plan))
			}
			for _, p := range fits[len(plan)] {
				if !slices.Contains(plan, p) && !from(append(plan, p)) {
					return false
				}
			}
			return true
		}
		from(nil)
	}
}

// used returns the moulds of casts, ascending.
func used(plan []api.CaPlace) (moulds []int) {
	for _, p := range plan {
		moulds = append(moulds, p.Mould)
	}
	slices.Sort(moulds)
	return slices.Compact(moulds)
}

// before reports whether a list is shorter than another one, or as long and before it.
func before(a, b []int) bool {
	return len(a) < len(b) || len(a) == len(b) && slices.Compare(a, b) < 0
}

// firstPlan returns of all plans with the fewest moulds the first one, and its moulds, found by trying all plans.
func firstPlan(fits [][]api.CaPlace) (plan []api.CaPlace, moulds []int) {
	for p := range plans(fits) {
		if m := used(p); plan == nil || before(m, moulds) {
			plan, moulds = p, m
		}
	}
	return plan, moulds
}

// numbers returns the numbers of a set of bits, ascending.
func numbers(set int) (list []int) {
	for n := range bits.Len(uint(set)) {
		if set>>n&1 == 1 {
			list = append(list, n)
		}
	}
	return list
}

// setOf returns numbers as a set of bits.
func setOf(list []int) (set int) {
	for _, n := range list {
		set |= 1 << n
	}
	return set
}

// planned reports for each set of pieces whether all of them can have casts of some moulds, no two the same. The casts are
// gone through one by one: each one is given to a piece, or thrown away.
func planned(fits [][]api.CaPlace, moulds int) (can []bool) {
	can = make([]bool, 1<<len(fits))
	can[0] = true
	for _, p := range different(fits...) {
		if moulds>>p.Mould&1 == 0 {
			continue
		}
		for set := len(can) - 1; set > 0; set-- {
			for _, piece := range numbers(set) {
				if can[set&^(1<<piece)] && slices.Contains(fits[piece], p) {
					can[set] = true
				}
			}
		}
	}
	return can
}

// different returns the casts of lists, each one once.
func different(lists ...[]api.CaPlace) (l []api.CaPlace) {
	for _, p := range slices.Concat(lists...) {
		if !slices.Contains(l, p) {
			l = append(l, p)
		}
	}
	return l
}

// lacking returns all lists of pieces that lack casts, the shortest ones first, and of those as long the first ones first.
func lacking(fits [][]api.CaPlace) (all [][]int) {
	for set := range 1 << len(fits) {
		var l [][]api.CaPlace
		for _, piece := range numbers(set) {
			l = append(l, fits[piece])
		}
		if len(different(l...)) < len(l) {
			all = append(all, numbers(set))
		}
	}
	sortLists(all)
	return all
}

// most returns the longest lists of pieces that can all have casts, the first ones first.
func most(fits [][]api.CaPlace) (all [][]int) {
	for set, can := range planned(fits, -1) {
		list := numbers(set)
		if !can || len(all) > 0 && len(list) < len(all[0]) {
			continue
		}
		if len(all) > 0 && len(list) > len(all[0]) {
			all = nil
		}
		all = append(all, list)
	}
	sortLists(all)
	return all
}

// sortLists sorts lists, the shorter ones first, and of those as long the first ones first.
func sortLists(lists [][]int) {
	slices.SortFunc(lists, func(a, b []int) int {
		if len(a) != len(b) {
			return len(a) - len(b)
		}
		return slices.Compare(a, b)
	})
}

// dice gives numbers that look random, and are the same in each run.
type dice uint64

func (d *dice) roll(n int) int {
	*d = *d*6364136223846793005 + 1442695040888963407
	return int(uint64(*d)>>33) % n
}

// from returns a number from lo to hi.
func (d *dice) from(lo, hi int) int { return lo + d.roll(hi-lo+1) }

// within returns a span of at most wide from lo to hi.
func (d *dice) within(lo, hi, wide int) api.Span {
	from := d.from(lo, hi)
	return span(from, min(hi, from+d.roll(wide+1)))
}

// shop returns a shop with so many moulds, each of whose spans is at most so wide. The moulds are about as large.
func (d *dice) shop(moulds, shrunk, wide, worn int) api.CaShop {
	least := []int{1, 100, 990, 5000, 19900}[d.roll(5)]
	s := api.CaShop{Shrink: d.within(0, 100, shrunk)}
	for i := range moulds {
		m := mould(string(rune('a'+i)), d.within(least, least+40, wide), d.within(0, 20, worn), d.from(1, 8))
		s.Moulds = append(s.Moulds, m)
	}
	return s
}

// any returns a shop of any sort.
func (d *dice) any() api.CaShop { return d.shop(d.from(1, 4), 6, 12, 3) }

// small returns a shop with few truths.
func (d *dice) small() api.CaShop {
	switch d.roll(4) {
	case 0:
		return d.shop(1, 6, 12, 3)
	case 1:
		return d.shop(2, 4, 5, 2)
	case 2:
		return d.shop(3, 3, 2, 1)
	}
	return d.few()
}

// few returns a shop with few casts, whose moulds are nearly known.
func (d *dice) few() api.CaShop {
	s := d.shop(d.from(3, 4), 1, 1, 0)
	for i := range s.Moulds {
		s.Moulds[i].Casts = d.from(1, 2)
	}
	return s
}

// truth returns a truth of a shop, whatever was measured.
func (d *dice) truth(s api.CaShop) (t truth) {
	for _, n := range spans(s) {
		t = append(t, d.from(n.Lo, n.Hi))
	}
	return t
}

// seen returns so many casts that were measured, as they are in a truth: each by at most off off on either side.
func (d *dice) seen(s api.CaShop, t truth, many, off int) (seen []api.CaSeen) {
	for range many {
		m := d.roll(len(s.Moulds))
		p := at(m, d.roll(s.Moulds[m].Casts))
		n := t.size(p)
		seen = append(seen, was(p.Mould, p.Cast, min(20000, max(0, n-d.roll(off+1))), min(20000, n+d.roll(off+1))))
	}
	// What is larger than any measure is not measured.
	return slices.DeleteFunc(seen, func(c api.CaSeen) bool { return !has(c.Size, t.size(at(c.Mould, c.Cast))) })
}

// odd returns casts that were measured, with some of which few truths agree, or none does.
func (d *dice) odd(s api.CaShop, most int) []api.CaSeen {
	seen := d.seen(s, d.truth(s), d.roll(most+1), 3)
	for i := range seen {
		if d.roll(4) == 0 {
			off := d.from(-4, 4)
			seen[i].Size = span(max(0, min(20000, seen[i].Size.Lo+off)), max(0, min(20000, seen[i].Size.Hi+off)))
		}
	}
	return seen
}

// order returns an order of so many pieces, each of which about some of the casts fit.
func (d *dice) order(k known, s api.CaShop, many int) (order []api.Span) {
	all := casts(s)
	wide := []int{0, 2, 10, 40}[d.roll(4)]
	for range many {
		a, b := k.sizes[all[d.roll(len(all))]], k.sizes[all[d.roll(len(all))]]
		piece := span(a.Lo-d.roll(wide+1), a.Hi+d.roll(wide+1))
		switch d.roll(8) {
		case 0:
			piece = span(min(a.Lo, b.Lo), max(a.Hi, b.Hi))
		case 1:
			piece = span(a.Lo+d.roll(3), a.Hi-d.roll(3))
		}
		if len(order) > 0 && d.roll(3) == 0 {
			piece = order[d.roll(len(order))]
		}
		lo, hi := max(0, min(20000, piece.Lo)), max(0, min(20000, piece.Hi))
		order = append(order, span(min(lo, hi), hi))
	}
	return order
}

// shuffled returns a list in another order.
func shuffled[T any](d *dice, list []T) (l []T) {
	for i, x := range list {
		l = slices.Insert(l, d.roll(i+1), x)
	}
	return l
}
