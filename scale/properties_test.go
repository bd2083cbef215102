package scale_test

import (
	"math"
	"slices"
	"testing"

	"hachure/api"
	"hachure/scale"
)

// numbers returns what a function with numbers does, without an error.
func numbers(t *testing.T, l []int, e api.Errno) []int {
	t.Helper()
	if e != api.OK {
		t.Fatalf("%v, %d", l, e)
	}
	return l
}

func cutsOf(t *testing.T, c api.ScCase, s api.ScScale) []int {
	t.Helper()
	l, e := scale.Cuts(c, s)
	return numbers(t, l, e)
}

func falsesOf(t *testing.T, c api.ScCase, s api.ScScale) []int {
	t.Helper()
	l, e := scale.False(c, s)
	return numbers(t, l, e)
}

func flatsOf(t *testing.T, c api.ScCase, s api.ScScale) []int {
	t.Helper()
	l, e := scale.Flat(c, s)
	return numbers(t, l, e)
}

// onBoard reports whether a scale fits on the board, as Cuts says.
func onBoard(t *testing.T, c api.ScCase, s api.ScScale) bool {
	t.Helper()
	return slices.Max(cutsOf(t, c, s)) <= c.Most
}

// found returns the scale of a function, and whether there is one.
func found(t *testing.T, s api.ScScale, e api.Errno) (api.ScScale, bool) {
	t.Helper()
	if e != api.OK && e != api.ErrDown {
		t.Fatalf("%v, %d", s, e)
	}
	return s, e == api.OK
}

func greatestOf(t *testing.T, c api.ScCase, limit int) (api.ScScale, bool) {
	t.Helper()
	s, e := scale.Greatest(c, limit)
	return found(t, s, e)
}

func leastOf(t *testing.T, c api.ScCase) (api.ScScale, bool) {
	t.Helper()
	s, e := scale.Least(c)
	return found(t, s, e)
}

func scalesOf(t *testing.T, c api.ScCase, marks []api.ScMark) []api.ScScale {
	t.Helper()
	l, e := scale.Scales(c, marks)
	if e != api.OK {
		t.Fatalf("Scales = %v, %d", l, e)
	}
	return l
}

// P5.6: with Greatest no road is falser than limit; with any greater scale that fits some road is.
func TestNoFalser(t *testing.T) {
	d := dice(8)
	some := 0
	for range 1000 {
		c, limit := d.any(), d.roll(300)
		s, is := greatestOf(t, c, limit)
		if is {
			some++
			if !onBoard(t, c, s) || slices.Max(append(falsesOf(t, c, s), 0)) > limit {
				t.Errorf("%v: Greatest with %d = %v", c, limit, s)
			}
		}
		for _, other := range all() {
			if (!is || compare(other, s) > 0) && onBoard(t, c, other) && slices.Max(append(falsesOf(t, c, other), 0)) <= limit {
				t.Errorf("%v: Greatest with %d = %v, but %v is no falser", c, limit, s, other)
			}
		}
	}
	if some < 300 || some > 900 {
		t.Errorf("%d with a scale: too few or too many for a test", some)
	}
}

// P5.7: the scale that a model was cut with is one of Scales; just those are that agree and fit.
func TestTheOneThatIsCut(t *testing.T) {
	d := dice(9)
	cut := 0
	for range 1000 {
		c, s := d.any(), d.scale()
		marks := d.marks(c, s, d.roll(20))
		list := scalesOf(t, c, marks)
		if onBoard(t, c, s) {
			cut++
			if !slices.Contains(list, s) {
				t.Errorf("%v: Scales of %v = %v, but it was %v", c, marks, list, s)
			}
		}
		for _, other := range all() {
			if slices.Contains(list, other) != (onBoard(t, c, other) && agrees(c, other, marks)) {
				t.Errorf("%v: Scales of %v = %v; %v", c, marks, list, other)
			}
		}
		if !slices.IsSortedFunc(list, compare) {
			t.Errorf("%v: Scales of %v = %v", c, marks, list)
		}
	}
	if cut < 300 {
		t.Errorf("%d that were cut: too few for a test", cut)
	}
}

// P5.8: with Least no road is flat; with any lesser scale that fits some road is.
func TestSeen(t *testing.T) {
	d := dice(10)
	some := 0
	for range 1000 {
		c := d.any()
		s, is := leastOf(t, c)
		if is {
			some++
			if !onBoard(t, c, s) || len(flatsOf(t, c, s)) > 0 {
				t.Errorf("%v: Least = %v", c, s)
			}
		}
		for _, other := range all() {
			if (!is || compare(other, s) < 0) && onBoard(t, c, other) && len(flatsOf(t, c, other)) == 0 {
				t.Errorf("%v: Least = %v, but no road is flat with %v", c, s, other)
			}
		}
	}
	if some < 300 || some > 950 {
		t.Errorf("%d with a scale: too few or too many for a test", some)
	}
}

// P5.9: the points of Tell tell any two apart, fewer do not; their cuts leave just the scale that was cut.
func TestToldApart(t *testing.T) {
	d := dice(11)
	many := 0
	for range 1500 {
		c := d.town(d.from(2, 100))
		c.Most = api.MaxScCut
		list := d.near(d.roll(api.MaxScScales + 1))
		points, e := scale.Tell(c, list)
		if e == api.ErrTwice {
			continue
		}
		many++
		numbers(t, points, e)
		if !told(c, list, points) {
			t.Errorf("%v: Tell of %v = %v", c, list, points)
		}
		for _, fewer := range subsets(len(c.Heights)) {
			if len(fewer) < len(points) && told(c, list, fewer) {
				t.Errorf("%v: Tell of %v = %v, but %v do", c, list, points, fewer)
			}
		}
		for _, s := range list {
			l := cutsOf(t, c, s)
			var marks []api.ScMark
			for _, p := range points {
				marks = append(marks, mark(p, l[p], l[p]))
			}
			left := scalesOf(t, c, marks)
			for _, other := range list {
				if slices.Contains(left, other) != (other == s) {
					t.Errorf("%v: Tell of %v = %v; with %v %v is left, too", c, list, points, s, other)
				}
			}
		}
	}
	if many < 300 {
		t.Errorf("%d that are told apart: too few for a test", many)
	}
}

// P5.10: how false a road can be, which some are.
func TestHowFalse(t *testing.T) {
	d := dice(12)
	just := 0
	for range 5000 {
		c, s := d.any(), d.scale()
		for i, parts := range falsesOf(t, c, s) {
			r := c.Roads[i]
			rise := s.Up * size(c.Heights[r.To]-c.Heights[r.From])
			if rise == 0 {
				if parts != 0 {
					t.Errorf("%v: with %v %v is false by %d", c, s, r, parts)
				}
				continue
			}
			most := (1000*(s.Down-1) + rise - 1) / rise
			if parts < 0 || parts > most {
				t.Errorf("%v: with %v %v is false by %d, not at most %d", c, s, r, parts, most)
			}
			if parts == most && parts > 0 {
				just++
			}
		}
	}
	if just < 100 {
		t.Errorf("%d roads that are as false as can be: too few for a test", just)
	}
}

// notAbove reports whether no number is above the one at its place in another list.
func notAbove(low, high []int) bool {
	for i := range low {
		if low[i] > high[i] {
			return false
		}
	}
	return len(low) == len(high)
}

// P5.11: higher points, greater scales, and the three Kinds.
func TestHigher(t *testing.T) {
	d := dice(13)
	for range 3000 {
		c, s, greater := d.any(), d.scale(), d.scale()
		if compare(s, greater) > 0 {
			s, greater = greater, s
		}
		var lists [][]int
		for _, kind := range kinds() {
			c.Kind = kind
			l := cutsOf(t, c, s)
			lists = append(lists, l)
			for i, a := range c.Heights {
				for j, b := range c.Heights {
					if a > b && l[i] < l[j] {
						t.Errorf("%v: with %v %d is cut lower than %d", c, s, a, b)
					}
				}
			}
			if m := cutsOf(t, c, greater); !notAbove(l, m) {
				t.Errorf("%v: with %v %v, but with %v %v", c, s, l, greater, m)
			}
		}
		beyond := slices.Clone(lists[0])
		for i := range beyond {
			beyond[i]++
		}
		if !notAbove(lists[0], lists[1]) || !notAbove(lists[1], lists[2]) || !notAbove(lists[2], beyond) {
			t.Errorf("%v: with %v %v", c, s, lists)
		}
	}
}

// turned returns a case with some of its roads going the other way.
func (d *dice) turned(c api.ScCase) api.ScCase {
	c = clone(c)
	for i, r := range c.Roads {
		if d.roll(2) == 0 {
			c.Roads[i] = road(r.To, r.From)
		}
	}
	return c
}

// raised returns a case with Base and all heights raised by the same number.
func (d *dice) raised(c api.ScCase) api.ScCase {
	c = clone(c)
	up := d.from(-c.Base, api.MaxHeight-slices.Max(c.Heights))
	c.Base += up
	for i := range c.Heights {
		c.Heights[i] += up
	}
	return c
}

// P5.12: roads that go the other way, and all that is raised.
func TestTurnedAndRaised(t *testing.T) {
	d := dice(14)
	for range 1000 {
		c, s, other, limit := d.any(), d.scale(), d.scale(), d.roll(500)
		want, is := greatestOf(t, c, limit)
		low, some := leastOf(t, c)
		marks := d.marks(c, s, 3)
		for _, same := range []api.ScCase{d.turned(c), d.raised(c), d.turned(d.raised(c))} {
			checkCuts(t, "the same", same, s, cutsOf(t, c, s), api.OK)
			checkFalse(t, "the same", same, s, falsesOf(t, c, s), api.OK)
			checkFlat(t, "the same", same, s, flatsOf(t, c, s), api.OK)
			checkScales(t, "the same", same, marks, scalesOf(t, c, marks), api.OK)
			if g, e := greatestOf(t, same, limit); g != want || e != is {
				t.Errorf("%v: Greatest with %d = %v; %v: %v", c, limit, want, same, g)
			}
			if g, e := leastOf(t, same); g != low || e != some {
				t.Errorf("%v: Least = %v; %v: %v", c, low, same, g)
			}
			a, _ := scale.Apart(c, s, other)
			checkApart(t, "the same", same, s, other, a, api.OK)
			points, e := scale.Tell(c, []api.ScScale{s, other})
			checkTell(t, "the same", same, []api.ScScale{s, other}, points, e)
		}
	}
}

// fewer returns a case without one of its roads, if it has any.
func (d *dice) fewer(c api.ScCase) api.ScCase {
	c = clone(c)
	if len(c.Roads) > 0 {
		i := d.roll(len(c.Roads))
		c.Roads = slices.Delete(c.Roads, i, i+1)
	}
	return c
}

// P5.13: a greater Most, a greater limit, and fewer roads.
func TestMore(t *testing.T) {
	d := dice(15)
	changed := [4]int{}
	for range 3000 {
		c, limit := d.any(), d.roll(300)
		before, was := greatestOf(t, c, limit)
		higher, fewer := clone(c), d.fewer(c)
		higher.Most = min(c.Most+d.from(1, 2*c.Most+2), api.MaxScCut)
		for i, m := range []struct {
			c     api.ScCase
			limit int
		}{{higher, limit}, {c, limit + d.from(1, 300)}, {fewer, limit}} {
			after, is := greatestOf(t, m.c, m.limit)
			if was && (!is || compare(after, before) < 0) {
				t.Errorf("%v: Greatest with %d = %v; %v with %d: %v", c, limit, before, m.c, m.limit, after)
			}
			if after != before {
				changed[i]++
			}
		}
		low, seen := leastOf(t, c)
		after, is := leastOf(t, fewer)
		if seen && (!is || compare(after, low) > 0) {
			t.Errorf("%v: Least = %v; %v: %v", c, low, fewer, after)
		}
		if after != low {
			changed[3]++
		}
	}
	if slices.Min(changed[:]) < 100 {
		t.Errorf("%v: too few for a test", changed)
	}
}

// P5.13: one more mark.
func TestOneMoreMark(t *testing.T) {
	d := dice(18)
	fewer := 0
	for range 3000 {
		c := d.any()
		marks := d.marks(c, d.scale(), 10)
		marks = append(marks[:min(len(marks), api.MaxScMarks-1)], mark(d.roll(len(c.Heights)), 0, d.from(0, 60)))
		before, after := scalesOf(t, c, marks[:len(marks)-1]), scalesOf(t, c, marks)
		if slices.ContainsFunc(after, func(s api.ScScale) bool { return !slices.Contains(before, s) }) {
			t.Errorf("%v: Scales of %v = %v, but without the last one %v", c, marks, after, before)
		}
		if len(after) < len(before) {
			fewer++
		}
	}
	if fewer < 300 {
		t.Errorf("%d with fewer scales: too few for a test", fewer)
	}
}

// P1: the greatest cases are gone through.
func TestTheGreatest(t *testing.T) {
	c := slope(api.ScUp, 0, 9000, 1, 8999, 2, 8998, 3, 8997)
	c.Roads = append(c.Roads, road(7, 0))
	checkGreatest(t, "the greatest", c, 0, by(11, 1), api.OK)
	checkLeast(t, "the greatest", c, by(1, 30), api.OK)
	checkCuts(t, "the greatest", c, by(30, 1), []int{0, 270000, 30, 269970, 60, 269940, 90, 269910}, api.OK)
	checkScales(t, "the greatest", c, []api.ScMark{mark(1, 99000, 100000)}, []api.ScScale{by(11, 1)}, api.OK)
	var list []api.ScScale
	for down := 25; down <= 30; down++ {
		list = append(list, by(1, down))
	}
	checkTell(t, "the greatest", c, list, []int{1}, api.OK)
}

// P1, P5.14: any arguments are accepted.
func TestAnyArguments(t *testing.T) {
	d := dice(16)
	odd := []int{math.MinInt, math.MinInt + 1, -1, 0, 0, 1, 1, 2, 2, 3, 3, 4, 8, 9, 30, 31, 100, 9000, 9001, 100000, 100001, 1000000, 1000001, math.MaxInt - 1, math.MaxInt}
	pick := func() int { return odd[d.roll(len(odd))] }
	for range 5000 {
		c := town(d.from(api.ScDown, api.ScUp))
		for range d.roll(4) {
			switch d.roll(5) {
			case 0:
				c.Kind = pick()
			case 1:
				c.Base = pick()
			case 2:
				c.Most = pick()
			case 3:
				c.Heights = append(c.Heights, pick())
			default:
				c.Roads = append(c.Roads, road(pick(), pick()))
			}
		}
		_, _, e := scale.Check(c)
		checkErrors(t, "odd numbers", c, e)
		a, b := by(pick(), pick()), by(pick(), pick())
		marks := []api.ScMark{mark(pick(), pick(), pick()), mark(pick(), pick(), pick())}
		scale.Cuts(c, a)
		scale.False(c, a)
		scale.Flat(c, a)
		scale.Greatest(c, pick())
		scale.Least(c)
		scale.Scales(c, marks[:d.roll(3)])
		scale.Apart(c, a, b)
		scale.Tell(c, []api.ScScale{a, b, by(1, 2)})
	}
}

// P5.14: no argument is modified.
func TestArguments(t *testing.T) {
	d := dice(17)
	for range 100 {
		c := d.town(60)
		c.Most = api.MaxScCut
		// The lists have room behind them, where nothing may be written.
		heights, roads := append(slices.Clone(c.Heights), 77), append(slices.Clone(c.Roads), road(7, 7))
		c.Heights, c.Roads = heights[:len(c.Heights)], roads[:len(c.Roads)]
		marks := []api.ScMark{mark(0, 0, 99), mark(0, 1, 98), mark(7, 7, 7)}
		list := []api.ScScale{by(2, 1), by(1, 30), by(3, 2), by(7, 7)}
		before, someMarks, someScales := clone(c), slices.Clone(marks), slices.Clone(list)
		scale.Check(c)
		scale.Cuts(c, list[0])
		scale.False(c, list[0])
		scale.Flat(c, list[0])
		scale.Greatest(c, 10)
		scale.Least(c)
		scale.Scales(c, marks[:2])
		scale.Apart(c, list[0], list[1])
		scale.Tell(c, list[:3])
		if !same(c, before) || heights[len(heights)-1] != 77 || roads[len(roads)-1] != road(7, 7) {
			t.Errorf("%v is %v", before, c)
		}
		if !slices.Equal(marks, someMarks) || !slices.Equal(list, someScales) {
			t.Errorf("the marks are %v, the scales are %v", marks, list)
		}
	}
}

// P5.14: a result is new memory.
func TestMemory(t *testing.T) {
	c := town(api.ScNear)
	for range 2 {
		cuts, falses, flats := cutsOf(t, c, by(1, 2)), falsesOf(t, c, by(1, 2)), flatsOf(t, c, by(1, 30))
		list := scalesOf(t, c, []api.ScMark{mark(2, 17, 17), mark(3, 40, 40)})
		apart, _ := scale.Apart(c, by(1, 2), by(2, 3))
		points, _ := scale.Tell(c, []api.ScScale{by(1, 2), by(3, 5), by(2, 3)})
		if !slices.Equal(cuts, []int{0, 5, 13, 30}) || !slices.Equal(falses, []int{0, 67, 29}) || !slices.Equal(flats, []int{0}) || !slices.Equal(list, []api.ScScale{by(2, 3)}) || !slices.Equal(apart, []int{1, 2, 3}) || !slices.Equal(points, []int{1}) {
			t.Fatalf("later results changed: %v, %v, %v, %v, %v, %v", cuts, falses, flats, list, apart, points)
		}
		cuts[0], falses[0], flats[0], list[0], apart[0], points[0] = 99, 99, 99, by(9, 9), 99, 99
		if !same(c, town(api.ScNear)) {
			t.Errorf("a result shares memory: %v", c)
		}
	}
}
