package river_test

import (
	"slices"

	"hachure/api"
)

// point returns a point that is named by a letter.
func point(letter rune, down, least, height int) api.RvPoint {
	return api.RvPoint{Name: string(letter), Down: down, Least: least, Height: height}
}

// valley is R of the chapter's examples, with some height of the well.
func valley(well int) []api.RvPoint {
	return []api.RvPoint{
		{Name: "sea", Down: api.RvMouth},
		{Name: "ford", Down: 0, Least: 5, Height: 40},
		{Name: "mill", Down: 1, Least: 10, Height: 45},
		{Name: "spring", Down: 2, Least: 10, Height: 70},
		{Name: "well", Down: 1, Height: well}}
}

// stream is a mouth and, each one above that before it, further points: their Least and Height one after the other.
func stream(mouth int, further ...int) []api.RvPoint {
	r := []api.RvPoint{point('a', api.RvMouth, 0, mouth)}
	for i := 0; i < len(further); i += 2 {
		r = append(r, point(rune('a'+len(r)), len(r)-1, further[i], further[i+1]))
	}
	return r
}

// star is a mouth and, each one above it, further points: their Least and Height one after the other.
func star(mouth int, further ...int) []api.RvPoint {
	r := stream(mouth, further...)
	for i := 1; i < len(r); i++ {
		r[i].Down = 0
	}
	return r
}

// with returns rivers with other heights.
func with(r []api.RvPoint, heights []int) []api.RvPoint {
	r = slices.Clone(r)
	for i := range r {
		r[i].Height = heights[i]
	}
	return r
}

// heightsOf returns the Height of each point.
func heightsOf(r []api.RvPoint) (list []int) {
	for _, p := range r {
		list = append(list, p.Height)
	}
	return list
}

// way returns the points to which water comes from a point, from this one to the mouth.
func way(r []api.RvPoint, at int) (list []int) {
	for ; at != api.RvMouth; at = r[at].Down {
		list = append(list, at)
	}
	return list
}

// fromMouth returns all points, each one behind its Down.
func fromMouth(r []api.RvPoint) (list []int) {
	for i := range r {
		list = append(list, i)
	}
	slices.SortStableFunc(list, func(a, b int) int { return len(way(r, a)) - len(way(r, b)) })
	return list
}

// drop returns the drop from a point to one below it, and whether it is below.
func drop(r []api.RvPoint, upper, lower int) (sum int, is bool) {
	for at := upper; at != api.RvMouth; at = r[at].Down {
		if at == lower {
			return sum, at != upper
		}
		sum += r[at].Least
	}
	return 0, false
}

// bad returns the points from which water does not run on with some heights.
func bad(r []api.RvPoint, heights []int) (list []int) {
	for i, p := range r {
		if p.Down != api.RvMouth && heights[i] < heights[p.Down]+p.Least {
			list = append(list, i)
		}
	}
	return list
}

// runDown reports whether numbers are heights that run down.
func runDown(r []api.RvPoint, heights []int) bool {
	return slices.Min(heights) >= 0 && slices.Max(heights) <= 9000 && len(bad(r, heights)) == 0
}

// outOfReach reports whether a point is out of reach.
func outOfReach(r []api.RvPoint, at int) bool {
	for i := range r {
		if d, is := drop(r, at, i); is && r[at].Height < d {
			return true
		}
		if d, is := drop(r, i, at); is && r[at].Height+d > 9000 {
			return true
		}
	}
	return false
}

// conflict reports whether two points are a conflict.
func conflict(r []api.RvPoint, a, b int) bool {
	if d, is := drop(r, a, b); is {
		return r[a].Height-r[b].Height < d
	}
	d, is := drop(r, b, a)
	return is && r[b].Height-r[a].Height < d
}

// corrected returns the lowest heights that run down and are the Height of all points that are not in a set of bits, and
// whether there are any.
func corrected(r []api.RvPoint, set int) (heights []int, is bool) {
	heights = make([]int, len(r))
	for _, at := range fromMouth(r) {
		p := r[at]
		if p.Down != api.RvMouth {
			heights[at] = heights[p.Down] + p.Least
		}
		if set>>at&1 == 0 {
			heights[at] = p.Height
		}
	}
	return heights, runDown(r, heights)
}

// points returns the points of a set of bits, ascending.
func points(set int) (list []int) {
	for at := 0; set>>at > 0; at++ {
		if set>>at&1 == 1 {
			list = append(list, at)
		}
	}
	return list
}

// fewest returns all corrections with the fewest points, the first ones first.
func fewest(r []api.RvPoint) (all [][]int) {
	for set := range 1 << len(r) {
		if _, is := corrected(r, set); !is {
			continue
		}
		list := points(set)
		if len(all) > 0 && len(list) < len(all[0]) {
			all = nil
		}
		if len(all) == 0 || len(list) == len(all[0]) {
			all = append(all, list)
		}
	}
	slices.SortFunc(all, slices.Compare)
	return all
}

// shared returns the numbers that all lists have, and those that some have.
func shared(lists [][]int) (all, some []int) {
	for n := range 9 {
		many := 0
		for _, list := range lists {
			if slices.Contains(list, n) {
				many++
			}
		}
		if many == len(lists) {
			all = append(all, n)
		}
		if many > 0 {
			some = append(some, n)
		}
	}
	return all, some
}

// areChains reports whether numbers are chains.
func areChains(r []api.RvPoint, numbers []int) bool {
	greatest := -1
	for i, n := range numbers {
		if (n == -1) != outOfReach(r, i) || n < -1 || n > greatest+1 {
			return false
		}
		greatest = max(greatest, n)
		for j, m := range numbers[:i] {
			if n == m && n >= 0 && !conflict(r, i, j) {
				return false
			}
		}
	}
	return len(numbers) == len(r)
}

// fewestChains returns of all chains with the fewest numbers the first ones, found by trying all numbers for each point.
func fewestChains(r []api.RvPoint) (found []int) {
	var try func(numbers []int)
	try = func(numbers []int) {
		if len(numbers) == len(r) {
			if areChains(r, numbers) && (found == nil || slices.Max(numbers) < slices.Max(found)) {
				found = numbers
			}
			return
		}
		for n := -1; n <= slices.Max(append(numbers, -1))+1; n++ {
			try(append(slices.Clone(numbers), n))
		}
	}
	try(nil)
	return found
}

// change returns by how much heights differ from Height.
func change(r []api.RvPoint, heights []int) (sum int) {
	for i, p := range r {
		sum += max(heights[i]-p.Height, p.Height-heights[i])
	}
	return sum
}

// allHeights calls a function with all numbers from lo to hi for so many points, the first ones first. The list is used
// again for the next ones.
func allHeights(many, lo, hi int, visit func(heights []int)) {
	heights := make([]int, many)
	var from func(at int)
	from = func(at int) {
		if at == many {
			visit(heights)
			return
		}
		for heights[at] = lo; heights[at] <= hi; heights[at]++ {
			from(at + 1)
		}
	}
	from(0)
}

// leastChange returns the least change of heights that run down, each of which is in the span of its point. All heights
// are tried at each point: costs has, for each one, the least change of the points above if the point is that high at
// least.
func leastChange(r []api.RvPoint, spans []api.Span) int {
	const none = 1 << 40
	costs := make([][]int, len(r))
	order := fromMouth(r)
	slices.Reverse(order)
	for _, at := range order {
		costs[at] = make([]int, 10002)
		for h := range costs[at] {
			costs[at][h] = none
		}
		for h := spans[at].Hi; h >= 0; h-- {
			cost := none
			if h >= spans[at].Lo {
				cost = max(h-r[at].Height, r[at].Height-h)
			}
			for i, p := range r {
				if p.Down == at {
					cost += costs[i][min(h+p.Least, 10001)]
				}
			}
			costs[at][h] = min(cost, costs[at][h+1])
		}
	}
	return costs[order[len(order)-1]][0]
}

// anyHeight returns the span of all heights for each point.
func anyHeight(r []api.RvPoint) []api.Span {
	return slices.Repeat([]api.Span{{Lo: 0, Hi: 9000}}, len(r))
}

// dice gives numbers that look random, and are the same in each run.
type dice uint64

func (d *dice) roll(n int) int {
	*d = *d*6364136223846793005 + 1442695040888963407
	return int(uint64(*d)>>33) % n
}

// from returns a number from lo to hi.
func (d *dice) from(lo, hi int) int { return lo + d.roll(hi-lo+1) }

// order returns the numbers from 0 to n-1 in any order.
func (d *dice) order(n int) (list []int) {
	for i := range n {
		list = slices.Insert(list, d.roll(i+1), i)
	}
	return list
}

// rivers returns so many points in any order, with heights from lo to hi and a Least of at most most.
func (d *dice) rivers(many, most, lo, hi int) []api.RvPoint {
	r, order := make([]api.RvPoint, many), d.order(many)
	long := d.from(1, many)
	for i, at := range order {
		r[at] = point(rune('a'+at), api.RvMouth, 0, d.from(lo, hi))
		if i > 0 {
			r[at].Down, r[at].Least = order[d.from(max(0, i-long), i-1)], d.roll(most+1)
		}
	}
	return r
}

// any returns rivers of any sort.
func (d *dice) any() []api.RvPoint { return d.some(d.from(1, api.MaxRvPoints)) }

// some returns so many points of one of several sorts: low or high ones, some of which are out of reach, or others.
func (d *dice) some(many int) []api.RvPoint {
	switch d.roll(5) {
	case 0:
		return d.rivers(many, 3, 0, 12)
	case 1:
		return d.rivers(many, 3, 8988, 9000)
	case 2:
		return d.rivers(many, 500, 0, 9000)
	case 3:
		return d.rivers(many, 500, 0, 3000)
	}
	return d.nearlyRight(many)
}

// nearlyRight returns rivers with heights that run down, but for a few points.
func (d *dice) nearlyRight(many int) []api.RvPoint {
	r := d.rivers(many, 50, 0, 0)
	r = with(r, d.running(r, heightsOf(r), 30))
	for range d.roll(4) {
		p := &r[d.roll(many)]
		p.Height = max(0, p.Height+d.from(-100, 100))
	}
	return r
}

// running returns heights with which water runs on everywhere, none of which is below some others, and which are more than
// needed by at most more. They can be too high.
func (d *dice) running(r []api.RvPoint, low []int, more int) []int {
	heights := make([]int, len(r))
	for _, at := range fromMouth(r) {
		heights[at] = low[at]
		if p := r[at]; p.Down != api.RvMouth {
			heights[at] = max(low[at], heights[p.Down]+p.Least)
		}
		heights[at] += d.roll(more+1) * d.roll(2)
	}
	return heights
}
