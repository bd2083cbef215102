package scale_test

import (
	"math"
	"slices"
	"testing"

	"hachure/api"
	"hachure/scale"
)

// P5.1: parts, indices, errors, and which one comes first.
func TestCheck(t *testing.T) {
	big, small := math.MaxInt, math.MinInt
	for _, f := range []struct {
		what     string
		change   func(c *api.ScCase)
		part, at int
		e        api.Errno
	}{
		{"the sample", func(c *api.ScCase) {}, 0, 0, api.OK},
		{"ScDown", func(c *api.ScCase) { c.Kind = 1 }, 0, 0, api.OK},
		{"ScUp", func(c *api.ScCase) { c.Kind = 3 }, 0, 0, api.OK},
		{"no Kind, and no Base", func(c *api.ScCase) { c.Kind, c.Base = 0, -1 }, 1, 0, api.ErrArg},
		{"no Kind, and no heights", func(c *api.ScCase) { c.Kind, c.Heights = 4, nil }, 1, 0, api.ErrArg},
		{"a Kind below 0", func(c *api.ScCase) { c.Kind = -1 }, 1, 0, api.ErrArg},
		{"the greatest int as Kind", func(c *api.ScCase) { c.Kind = big }, 1, 0, api.ErrArg},
		{"the least int as Kind", func(c *api.ScCase) { c.Kind = small }, 1, 0, api.ErrArg},
		{"Base below 0", func(c *api.ScCase) { c.Base = -1 }, 1, 0, api.ErrRange},
		{"Base too great, and no heights", func(c *api.ScCase) { c.Base, c.Heights = 9001, nil }, 1, 0, api.ErrRange},
		{"the greatest int as Base", func(c *api.ScCase) { c.Base = big }, 1, 0, api.ErrRange},
		{"Base 0", func(c *api.ScCase) { c.Base = 0 }, 0, 0, api.OK},
		{"the highest Base", func(c *api.ScCase) { c.Base, c.Heights = 9000, []int{9000, 9000, 9000, 9000} }, 0, 0, api.OK},
		{"Most below 0, and too many roads", func(c *api.ScCase) { c.Most, c.Roads = -1, make([]api.ScRoad, 9) }, 1, 0, api.ErrRange},
		{"Most too great, and a road", func(c *api.ScCase) { c.Most, c.Roads[0].To = 100001, 9 }, 1, 0, api.ErrRange},
		{"the least int as Most", func(c *api.ScCase) { c.Most = small }, 1, 0, api.ErrRange},
		{"Most 0", func(c *api.ScCase) { c.Most = 0 }, 0, 0, api.OK},
		{"the greatest Most", func(c *api.ScCase) { c.Most = 100000 }, 0, 0, api.OK},
		{"no heights, and roads without points", func(c *api.ScCase) { c.Heights = nil }, 1, 0, api.ErrLong},
		{"no heights, but a list", func(c *api.ScCase) { c.Heights = []int{} }, 1, 0, api.ErrLong},
		{"nine heights, all wrong", func(c *api.ScCase) { c.Heights = make([]int, 9) }, 1, 0, api.ErrLong},
		{"nine heights", func(c *api.ScCase) { c.Heights = slices.Repeat([]int{100}, 9) }, 1, 0, api.ErrLong},
		{"eight heights", func(c *api.ScCase) { c.Heights = slices.Repeat([]int{100}, 8) }, 0, 0, api.OK},
		{"one height", func(c *api.ScCase) { c.Heights, c.Roads = c.Heights[:1], nil }, 0, 0, api.OK},
		{"nine roads, and a height", func(c *api.ScCase) { c.Heights[0], c.Roads = 99, make([]api.ScRoad, 9) }, 1, 0, api.ErrLong},
		{"nine roads", func(c *api.ScCase) { c.Roads = slices.Repeat([]api.ScRoad{road(0, 1)}, 9) }, 1, 0, api.ErrLong},
		{"eight roads, all the same", func(c *api.ScCase) { c.Roads = slices.Repeat([]api.ScRoad{road(0, 1)}, 8) }, 0, 0, api.OK},
		{"no roads", func(c *api.ScCase) { c.Roads = []api.ScRoad{} }, 0, 0, api.OK},
		{"a height below Base", func(c *api.ScCase) { c.Heights[0] = 99 }, 2, 0, api.ErrRange},
		{"a height below 0", func(c *api.ScCase) { c.Base, c.Heights[2] = 0, -1 }, 2, 2, api.ErrRange},
		{"a height too great, and a road", func(c *api.ScCase) { c.Heights[3], c.Roads[0].To = 9001, 9 }, 2, 3, api.ErrRange},
		{"the highest height", func(c *api.ScCase) { c.Heights[3] = 9000 }, 0, 0, api.OK},
		{"the first height decides", func(c *api.ScCase) { c.Heights[1], c.Heights[2] = big, small }, 2, 1, api.ErrRange},
		{"From below 0", func(c *api.ScCase) { c.Roads[0].From = -1 }, 3, 0, api.ErrNone},
		{"From too great", func(c *api.ScCase) { c.Roads[2].From = 4 }, 3, 2, api.ErrNone},
		{"To below 0", func(c *api.ScCase) { c.Roads[1].To = -1 }, 3, 1, api.ErrNone},
		{"To too great", func(c *api.ScCase) { c.Roads[1].To = 4 }, 3, 1, api.ErrNone},
		{"both too great, and the same", func(c *api.ScCase) { c.Roads[1] = road(4, 4) }, 3, 1, api.ErrNone},
		{"far beyond", func(c *api.ScCase) { c.Roads[1] = road(small, big) }, 3, 1, api.ErrNone},
		{"to itself", func(c *api.ScCase) { c.Roads[2] = road(3, 3) }, 3, 2, api.ErrArg},
		{"the first road decides", func(c *api.ScCase) { c.Roads[1], c.Roads[2] = road(1, 1), road(4, 0) }, 3, 1, api.ErrArg},
		{"the first road decides again", func(c *api.ScCase) { c.Roads[1], c.Roads[2] = road(4, 0), road(1, 1) }, 3, 1, api.ErrNone},
	} {
		c := town(api.ScNear)
		f.change(&c)
		if part, at, e := scale.Check(c); part != f.part || at != f.at || e != f.e {
			t.Errorf("%s: Check = %d, %d, %d", f.what, part, at, e)
		}
		checkErrors(t, f.what, c, f.e)
	}
}

// checkErrors checks that each function returns the error of Check first, and nothing else with it.
func checkErrors(t *testing.T, what string, c api.ScCase, e api.Errno) {
	t.Helper()
	if e == api.OK {
		return
	}
	for _, s := range []api.ScScale{by(1, 2), by(2, 2), by(0, 31)} {
		checkCuts(t, what, c, s, nil, e)
		checkFalse(t, what, c, s, nil, e)
		checkFlat(t, what, c, s, nil, e)
		checkApart(t, what, c, s, by(2, 3), nil, e)
		checkApart(t, what, c, by(2, 3), s, nil, e)
		checkTell(t, what, c, []api.ScScale{s, by(2, 3)}, nil, e)
	}
	checkTell(t, what, c, nil, nil, e)
	checkTell(t, what, c, make([]api.ScScale, 7), nil, e)
	for _, limit := range []int{0, -1, 1000001} {
		checkGreatest(t, what, c, limit, api.ScScale{}, e)
	}
	checkLeast(t, what, c, api.ScScale{}, e)
	for _, marks := range [][]api.ScMark{nil, {mark(0, 0, 0)}, {mark(-1, 2, 1)}, make([]api.ScMark, 9)} {
		checkScales(t, what, c, marks, nil, e)
	}
}

func checkNumbers(t *testing.T, what string, got []int, f api.Errno, want []int, e api.Errno) {
	t.Helper()
	if !slices.Equal(got, want) || f != e {
		t.Errorf("%s = %v, %d, not %v, %d", what, got, f, want, e)
	}
}

func checkCuts(t *testing.T, what string, c api.ScCase, s api.ScScale, want []int, e api.Errno) {
	t.Helper()
	l, f := scale.Cuts(c, s)
	checkNumbers(t, what+": Cuts", l, f, want, e)
}

func checkFalse(t *testing.T, what string, c api.ScCase, s api.ScScale, want []int, e api.Errno) {
	t.Helper()
	l, f := scale.False(c, s)
	checkNumbers(t, what+": False", l, f, want, e)
}

func checkFlat(t *testing.T, what string, c api.ScCase, s api.ScScale, want []int, e api.Errno) {
	t.Helper()
	l, f := scale.Flat(c, s)
	checkNumbers(t, what+": Flat", l, f, want, e)
}

func checkApart(t *testing.T, what string, c api.ScCase, a, b api.ScScale, want []int, e api.Errno) {
	t.Helper()
	l, f := scale.Apart(c, a, b)
	checkNumbers(t, what+": Apart", l, f, want, e)
}

func checkTell(t *testing.T, what string, c api.ScCase, list []api.ScScale, want []int, e api.Errno) {
	t.Helper()
	l, f := scale.Tell(c, list)
	checkNumbers(t, what+": Tell", l, f, want, e)
}

func checkGreatest(t *testing.T, what string, c api.ScCase, limit int, want api.ScScale, e api.Errno) {
	t.Helper()
	if s, f := scale.Greatest(c, limit); s != want || f != e {
		t.Errorf("%s: %v: Greatest with %d = %v, %d, not %v, %d", what, c, limit, s, f, want, e)
	}
}

func checkLeast(t *testing.T, what string, c api.ScCase, want api.ScScale, e api.Errno) {
	t.Helper()
	if s, f := scale.Least(c); s != want || f != e {
		t.Errorf("%s: %v: Least = %v, %d, not %v, %d", what, c, s, f, want, e)
	}
}

func checkScales(t *testing.T, what string, c api.ScCase, marks []api.ScMark, want []api.ScScale, e api.Errno) {
	t.Helper()
	if l, f := scale.Scales(c, marks); !slices.Equal(l, want) || f != e {
		t.Errorf("%s: %v: Scales of %v = %v, %d, not %v, %d", what, c, marks, l, f, want, e)
	}
}

// The examples of the chapter, and the fifth one of the document.
func TestExamples(t *testing.T) {
	c := town(api.ScNear)
	checkCuts(t, "1/2", c, by(1, 2), []int{0, 5, 13, 30}, api.OK)
	checkCuts(t, "2/3", c, by(2, 3), []int{0, 7, 17, 40}, api.OK)
	checkFalse(t, "1/2", c, by(1, 2), []int{0, 67, 29}, api.OK)
	checkFalse(t, "2/3", c, by(2, 3), []int{50, 0, 15}, api.OK)
	checkFlat(t, "1/30", c, by(1, 30), []int{0}, api.OK)
	checkFlat(t, "1/2", c, by(1, 2), nil, api.OK)
	checkGreatest(t, "C", c, 0, by(4, 5), api.OK)
	checkGreatest(t, "C", c, 47, by(5, 6), api.OK)
	checkGreatest(t, "C", c, 48, by(21, 25), api.OK)
	checkGreatest(t, "C", c, api.MaxScFalse, by(21, 25), api.OK)
	checkLeast(t, "C", c, by(1, 16), api.OK)
	checkScales(t, "C", c, []api.ScMark{mark(2, 17, 17), mark(3, 40, 40)}, []api.ScScale{by(2, 3)}, api.OK)
	checkScales(t, "C", c, []api.ScMark{mark(3, 41, 41)}, []api.ScScale{by(19, 28), by(17, 25), by(15, 22), by(13, 19), by(11, 16), by(20, 29)}, api.OK)
	checkApart(t, "1/2 and 2/3", c, by(1, 2), by(2, 3), []int{1, 2, 3}, api.OK)
	checkApart(t, "19/28 and 17/25", c, by(19, 28), by(17, 25), nil, api.OK)
	checkTell(t, "three", c, []api.ScScale{by(1, 2), by(3, 5), by(2, 3)}, []int{1}, api.OK)
	checkTell(t, "two that are alike", c, []api.ScScale{by(19, 28), by(17, 25)}, nil, api.ErrTwice)
	checkCuts(t, "ScDown", town(api.ScDown), by(2, 3), []int{0, 6, 16, 40}, api.OK)
	checkCuts(t, "ScUp", town(api.ScUp), by(2, 3), []int{0, 7, 17, 40}, api.OK)
}

// P5.2, P5.5: the error of a scale, and which of both scales comes first.
func TestErrorsOfScales(t *testing.T) {
	c := town(api.ScDown)
	for _, o := range []struct {
		s api.ScScale
		e api.Errno
	}{
		{by(0, 1), api.ErrRange}, {by(1, 0), api.ErrRange}, {by(0, 0), api.ErrRange}, {by(-1, 1), api.ErrRange}, {by(1, -1), api.ErrRange}, {by(31, 1), api.ErrRange}, {by(1, 31), api.ErrRange}, {by(-2, -2), api.ErrRange},
		{by(32, 2), api.ErrRange}, {by(2, 32), api.ErrRange}, {by(31, 31), api.ErrRange}, {by(math.MinInt, math.MinInt), api.ErrRange}, {by(math.MaxInt, 2), api.ErrRange}, {by(3, math.MinInt), api.ErrRange},
		{by(2, 2), api.ErrForm}, {by(30, 30), api.ErrForm}, {by(2, 30), api.ErrForm}, {by(30, 2), api.ErrForm}, {by(29, 29), api.ErrForm}, {by(3, 9), api.ErrForm}, {by(21, 14), api.ErrForm}, {by(26, 13), api.ErrForm}, {by(25, 30), api.ErrForm}, {by(15, 27), api.ErrForm},
		{by(1, 1), api.OK}, {by(30, 1), api.OK}, {by(1, 30), api.OK}, {by(29, 30), api.OK}, {by(30, 29), api.OK}, {by(9, 16), api.OK},
	} {
		if o.e == api.OK {
			checkCuts(t, "a scale", c, o.s, cuts(c, o.s), api.OK)
			continue
		}
		checkCuts(t, "no scale", c, o.s, nil, o.e)
		checkFalse(t, "no scale", c, o.s, nil, o.e)
		checkFlat(t, "no scale", c, o.s, nil, o.e)
		checkApart(t, "the former one", c, o.s, by(1, 2), nil, o.e)
		checkApart(t, "the latter one", c, by(1, 2), o.s, nil, o.e)
		checkTell(t, "the first one", c, []api.ScScale{o.s, by(1, 2)}, nil, o.e)
		checkTell(t, "the last one, behind the same twice", c, []api.ScScale{by(1, 2), by(1, 2), o.s}, nil, o.e)
	}
	checkApart(t, "both", c, by(2, 2), by(0, 1), nil, api.ErrForm)
	checkApart(t, "both", c, by(0, 1), by(2, 2), nil, api.ErrRange)
	checkTell(t, "the first one decides", c, []api.ScScale{by(1, 2), by(4, 2), by(0, 1)}, nil, api.ErrForm)
	checkTell(t, "the first one decides", c, []api.ScScale{by(1, 2), by(0, 1), by(4, 2)}, nil, api.ErrRange)
	for up := -3; up <= 33; up++ {
		for down := -3; down <= 33; down++ {
			s := by(up, down)
			_, e := scale.Cuts(c, s)
			if e == api.OK != slices.Contains(all(), s) {
				t.Errorf("%v: %d", s, e)
			}
		}
	}
}

// P5.2: halves, thirds and whole numbers by hand, what does not fit on the board, and against the definition.
func TestCuts(t *testing.T) {
	heights := []int{0, 1, 2, 3, 4, 5, 6, 9000}
	for _, o := range []struct {
		s              api.ScScale
		low, mid, high []int
	}{
		{by(1, 1), heights, heights, heights},
		{by(30, 1), []int{0, 30, 60, 90, 120, 150, 180, 270000}, []int{0, 30, 60, 90, 120, 150, 180, 270000}, []int{0, 30, 60, 90, 120, 150, 180, 270000}},
		{by(1, 2), []int{0, 0, 1, 1, 2, 2, 3, 4500}, []int{0, 1, 1, 2, 2, 3, 3, 4500}, []int{0, 1, 1, 2, 2, 3, 3, 4500}},
		{by(1, 3), []int{0, 0, 0, 1, 1, 1, 2, 3000}, []int{0, 0, 1, 1, 1, 2, 2, 3000}, []int{0, 1, 1, 1, 2, 2, 2, 3000}},
		{by(2, 3), []int{0, 0, 1, 2, 2, 3, 4, 6000}, []int{0, 1, 1, 2, 3, 3, 4, 6000}, []int{0, 1, 2, 2, 3, 4, 4, 6000}},
		{by(3, 4), []int{0, 0, 1, 2, 3, 3, 4, 6750}, []int{0, 1, 2, 2, 3, 4, 5, 6750}, []int{0, 1, 2, 3, 3, 4, 5, 6750}},
		{by(1, 30), []int{0, 0, 0, 0, 0, 0, 0, 300}, []int{0, 0, 0, 0, 0, 0, 0, 300}, []int{0, 1, 1, 1, 1, 1, 1, 300}},
	} {
		for i, want := range [][]int{o.low, o.mid, o.high} {
			c := slope(i+1, heights...)
			c.Most = 0
			checkCuts(t, "by hand", c, o.s, want, api.OK)
		}
	}
	d := dice(1)
	for range 5000 {
		c, s := d.any(), d.scale()
		checkCuts(t, "at random", c, s, cuts(c, s), api.OK)
	}
}

// P5.2: by hand, and against the definition.
func TestFalseFlat(t *testing.T) {
	for _, o := range []struct {
		what   string
		c      api.ScCase
		s      api.ScScale
		falses []int
		flat   []int
	}{
		{"no roads", slope(api.ScDown, 7), by(1, 2), nil, nil},
		{"level", slope(api.ScDown, 7, 7), by(1, 2), []int{0}, nil},
		{"level, and rounded", slope(api.ScUp, 7, 7, 8), by(1, 2), []int{0, 1000}, []int{1}},
		{"in full", slope(api.ScNear, 7, 12, 3), by(29, 1), []int{0, 0}, nil},
		{"seems level", slope(api.ScDown, 8, 9, 8), by(1, 4), []int{1000, 1000}, []int{0, 1}},
		{"too steep", slope(api.ScDown, 7, 8), by(1, 2), []int{1000}, nil},
		{"down, too steep", slope(api.ScDown, 8, 7), by(1, 2), []int{1000}, nil},
		{"far too steep", slope(api.ScDown, 29, 30), by(1, 30), []int{29000}, nil},
		{"rounded up, from 333 and a third", slope(api.ScDown, 0, 3), by(1, 2), []int{334}, nil},
		{"rounded up, from next to nothing", slope(api.ScDown, 0, 8999), by(1, 2), []int{1}, nil},
		{"whole parts", slope(api.ScUp, 0, 5), by(1, 2), []int{200}, nil},
		{"1 of 7 with a greater Up", slope(api.ScNear, 0, 3), by(7, 3), []int{0}, nil},
		{"1 of 14 with a greater Up", slope(api.ScNear, 0, 2), by(7, 3), []int{72}, nil},
		{"the roads are flat one by one", slope(api.ScDown, 0, 4, 9, 0, 0, 5, 9), by(1, 5), []int{1000, 0, 445, 0, 0, 1000}, []int{0, 5}},
	} {
		o.c.Most = 0
		checkFalse(t, o.what, o.c, o.s, o.falses, api.OK)
		checkFlat(t, o.what, o.c, o.s, o.flat, api.OK)
	}
	d := dice(2)
	found := [3]int{}
	for range 5000 {
		c, s := d.any(), d.scale()
		list := falses(c, s)
		checkFalse(t, "at random", c, s, list, api.OK)
		checkFlat(t, "at random", c, s, flats(c, s), api.OK)
		for _, parts := range list {
			found[min(1, parts)+min(1, parts/1000)]++
		}
	}
	if slices.Min(found[:]) < 500 {
		t.Errorf("%v: too few for a test", found)
	}
}

// P5.3: the limit, by hand, and against all scales.
func TestGreatest(t *testing.T) {
	for _, limit := range []int{-1, 1000001, math.MinInt, math.MaxInt} {
		checkGreatest(t, "no limit", town(api.ScNear), limit, api.ScScale{}, api.ErrRange)
		checkGreatest(t, "no limit, and none fits", board(api.ScUp, 0, 1), limit, api.ScScale{}, api.ErrRange)
	}
	for _, o := range []struct {
		what  string
		c     api.ScCase
		limit int
		want  api.ScScale
	}{
		{"the greatest of all", slope(api.ScNear, 7, 12), 0, by(30, 1)},
		{"the greatest of all, at Base", board(api.ScUp, 0, 0), 0, by(30, 1)},
		{"just fits", board(api.ScDown, 30, 1), 0, by(30, 1)},
		{"just does not", board(api.ScDown, 29, 1), 0, by(29, 1)},
		{"rounded down it fits", board(api.ScDown, 2, 2), 0, by(28, 19)},
		{"rounded to the nearest it fits", board(api.ScNear, 2, 2), 0, by(26, 21)},
		{"rounded up it fits", board(api.ScUp, 2, 2), 0, by(1, 1)},
		{"the least one fits", board(api.ScUp, 1, 30), 0, by(1, 30)},
		{"cuts are 0", board(api.ScDown, 0, 29), 0, by(1, 30)},
		{"a level road", api.ScCase{Kind: api.ScDown, Most: 10, Heights: []int{5, 5}, Roads: []api.ScRoad{road(0, 1)}}, 0, by(24, 11)},
	} {
		checkGreatest(t, o.what, o.c, o.limit, o.want, api.OK)
	}
	checkGreatest(t, "none fits", board(api.ScUp, 0, 1), api.MaxScFalse, api.ScScale{}, api.ErrDown)
	checkGreatest(t, "none fits", board(api.ScUp, 1, 31), api.MaxScFalse, api.ScScale{}, api.ErrDown)
	flat := board(api.ScDown, 0, 29)
	flat.Heights, flat.Roads = []int{29, 0}, []api.ScRoad{road(0, 1)}
	checkGreatest(t, "all are false", flat, 999, api.ScScale{}, api.ErrDown)
	checkGreatest(t, "all are false by 1000", flat, 1000, by(1, 30), api.OK)
	d := dice(3)
	down := 0
	for range 1500 {
		c := d.any()
		limits := []int{0, d.roll(20), d.roll(200), d.roll(2000), api.MaxScFalse}
		for _, limit := range limits {
			s, is := greatest(c, limit)
			if is {
				checkGreatest(t, "at random", c, limit, s, api.OK)
				continue
			}
			down++
			checkGreatest(t, "at random", c, limit, s, api.ErrDown)
		}
	}
	if down < 500 || down > 5000 {
		t.Errorf("%d without a scale: too few or too many for a test", down)
	}
}

// board is a case with Base 0, this Most and one height.
func board(kind, most, height int) api.ScCase {
	return api.ScCase{Kind: kind, Most: most, Heights: []int{height}}
}

// P5.3: by hand, and against all scales.
func TestLeast(t *testing.T) {
	low := slope(api.ScNear, 0, 15)
	low.Most = 0
	for _, o := range []struct {
		what string
		c    api.ScCase
		want api.ScScale
		e    api.Errno
	}{
		{"no roads", slope(api.ScDown, 7), by(1, 30), api.OK},
		{"a level road", slope(api.ScDown, 7, 7), by(1, 30), api.OK},
		{"30 up", slope(api.ScDown, 0, 30), by(1, 30), api.OK},
		{"29 up", slope(api.ScDown, 0, 29), by(1, 29), api.OK},
		{"29 up from 1", slope(api.ScDown, 1, 30), by(1, 30), api.OK},
		{"a half", slope(api.ScNear, 0, 15), by(1, 30), api.OK},
		{"less than a half", slope(api.ScNear, 0, 14), by(1, 28), api.OK},
		{"1 up", slope(api.ScUp, 0, 1), by(1, 30), api.OK},
		{"1 up from 1", slope(api.ScUp, 1, 2), by(15, 29), api.OK},
		{"1 up, down", slope(api.ScDown, 1, 0), by(1, 1), api.OK},
		{"a half does not fit", low, api.ScScale{}, api.ErrDown},
		{"none fits", board(api.ScUp, 0, 1), api.ScScale{}, api.ErrDown},
		{"the next one does not fit", api.ScCase{Kind: api.ScDown, Most: 1, Heights: []int{20, 10}, Roads: []api.ScRoad{road(0, 1)}}, by(1, 20), api.OK},
	} {
		checkLeast(t, o.what, o.c, o.want, o.e)
	}
	d := dice(4)
	down := 0
	for range 3000 {
		c := d.any()
		s, is := least(c)
		if is {
			checkLeast(t, "at random", c, s, api.OK)
			continue
		}
		down++
		checkLeast(t, "at random", c, s, api.ErrDown)
	}
	if down < 200 || down > 2000 {
		t.Errorf("%d without a scale: too few or too many for a test", down)
	}
}

// P5.4: the errors of marks, and which one comes first.
func TestErrorsOfMarks(t *testing.T) {
	c := town(api.ScNear)
	big, small := math.MaxInt, math.MinInt
	for _, o := range []struct {
		what  string
		marks []api.ScMark
		e     api.Errno
	}{
		{"nine", make([]api.ScMark, 9), api.ErrLong},
		{"nine, all wrong", slices.Repeat([]api.ScMark{mark(-1, 2, 1)}, 9), api.ErrLong},
		{"Point below 0", []api.ScMark{mark(-1, 0, 0)}, api.ErrNone},
		{"Point too great, and ends", []api.ScMark{mark(4, -1, 100001)}, api.ErrNone},
		{"Point far beyond", []api.ScMark{mark(big, 2, 1)}, api.ErrNone},
		{"Lo below 0", []api.ScMark{mark(0, -1, 0)}, api.ErrRange},
		{"Lo too great", []api.ScMark{mark(0, 100001, 0)}, api.ErrRange},
		{"Hi below 0", []api.ScMark{mark(0, 0, -1)}, api.ErrRange},
		{"Hi too great", []api.ScMark{mark(0, 0, 100001)}, api.ErrRange},
		{"ends far apart", []api.ScMark{mark(0, small, big)}, api.ErrRange},
		{"Lo above Hi", []api.ScMark{mark(0, 1, 0)}, api.ErrArg},
		{"the first one decides", []api.ScMark{mark(0, 0, 0), mark(1, 2, 1), mark(4, 0, 0)}, api.ErrArg},
		{"the first one decides", []api.ScMark{mark(0, 1, 1), mark(4, 0, 0), mark(1, 2, 1)}, api.ErrNone},
	} {
		checkScales(t, o.what, c, o.marks, nil, o.e)
	}
	checkScales(t, "no scale fits", board(api.ScUp, 0, 1), []api.ScMark{mark(1, 0, 0)}, nil, api.ErrNone)
}

// P5.4: by hand, and against all scales.
func TestScales(t *testing.T) {
	c := town(api.ScNear)
	checkScales(t, "none of C", c, nil, fitting(c), api.OK)
	checkScales(t, "the greatest cut", c, slices.Repeat([]api.ScMark{mark(0, 0, 100000)}, 8), fitting(c), api.OK)
	checkScales(t, "no scale agrees", c, []api.ScMark{mark(0, 1, 100000)}, nil, api.OK)
	checkScales(t, "no scale fits", board(api.ScUp, 0, 1), nil, nil, api.OK)
	checkScales(t, "no scale that agrees fits", c, []api.ScMark{mark(3, 51, 60)}, nil, api.OK)
	checkScales(t, "all of them", board(api.ScUp, 0, 0), nil, all(), api.OK)
	if len(all()) != 555 {
		t.Errorf("%d scales", len(all()))
	}
	d := dice(5)
	several := 0
	for range 1500 {
		c := d.any()
		list := fitting(c)
		if len(list) == 0 {
			checkScales(t, "no scale fits", c, nil, nil, api.OK)
			continue
		}
		marks := d.marks(c, list[d.roll(len(list))], d.roll(10))
		if d.roll(5) == 0 {
			marks = append(marks, d.marks(c, list[d.roll(len(list))], 5)...)
		}
		marks = marks[:min(len(marks), api.MaxScMarks)]
		var want []api.ScScale
		for _, s := range list {
			if agrees(c, s, marks) {
				want = append(want, s)
			}
		}
		if len(want) > 1 && len(want) < len(list) {
			several++
		}
		checkScales(t, "at random", c, marks, want, api.OK)
	}
	if several < 300 {
		t.Errorf("%d with some of several scales: too few for a test", several)
	}
}

// P5.5: by hand, and against the definition.
func TestApart(t *testing.T) {
	c := slope(api.ScDown, 0, 1, 2, 3, 4, 5)
	checkApart(t, "the same", c, by(1, 3), by(1, 3), nil, api.OK)
	checkApart(t, "beside each other", c, by(1, 3), by(1, 4), []int{3}, api.OK)
	checkApart(t, "the other way round", c, by(1, 4), by(1, 3), []int{3}, api.OK)
	checkApart(t, "far from each other", c, by(1, 30), by(30, 1), []int{1, 2, 3, 4, 5}, api.OK)
	checkApart(t, "alike", c, by(1, 30), by(1, 6), nil, api.OK)
	c.Most = 0
	checkApart(t, "neither fits", c, by(1, 3), by(1, 2), []int{2, 4, 5}, api.OK)
	d := dice(6)
	found := 0
	for range 5000 {
		c, a, b := d.any(), d.scale(), d.scale()
		list := apart(c, a, b)
		if len(list) > 0 && len(list) < len(c.Heights) {
			found++
		}
		checkApart(t, "at random", c, a, b, list, api.OK)
	}
	if found < 1000 {
		t.Errorf("%d that some points tell apart: too few for a test", found)
	}
}

// P5.5: how many scales, which are alike, by hand, and against all lists of points.
func TestTell(t *testing.T) {
	c := slope(api.ScDown, 0, 1, 2, 3, 4, 5)
	for _, o := range []struct {
		what string
		list []api.ScScale
		want []int
		e    api.Errno
	}{
		{"none", nil, nil, api.OK},
		{"one", []api.ScScale{by(1, 2)}, nil, api.OK},
		{"two", []api.ScScale{by(1, 2), by(1, 3)}, []int{2}, api.OK},
		{"two points for three", []api.ScScale{by(1, 4), by(1, 3), by(1, 5)}, []int{3, 4}, api.OK},
		{"one point for three", []api.ScScale{by(3, 4), by(1, 5), by(1, 2)}, []int{3}, api.OK},
		{"six", []api.ScScale{by(1, 1), by(2, 1), by(3, 1), by(4, 1), by(5, 1), by(6, 1)}, []int{1}, api.OK},
		{"seven", []api.ScScale{by(1, 1), by(2, 1), by(3, 1), by(4, 1), by(5, 1), by(6, 1), by(7, 1)}, nil, api.ErrLong},
		{"seven, all wrong", make([]api.ScScale, 7), nil, api.ErrLong},
		{"the same", []api.ScScale{by(1, 2), by(1, 3), by(1, 2)}, nil, api.ErrTwice},
		{"alike", []api.ScScale{by(1, 7), by(1, 1), by(1, 6)}, nil, api.ErrTwice},
		{"alike in all points but the last", []api.ScScale{by(1, 6), by(1, 5)}, []int{5}, api.OK},
	} {
		checkTell(t, o.what, c, o.list, o.want, o.e)
		c.Most = 0
		checkTell(t, o.what, c, o.list, o.want, o.e)
	}
	d := dice(7)
	found := map[int]int{}
	for range 6000 {
		c := d.town(d.from(2, 100))
		list := d.near(d.roll(api.MaxScScales + 1))
		points, is := fewest(c, list)
		if !is {
			found[-1]++
			checkTell(t, "at random", c, list, nil, api.ErrTwice)
			continue
		}
		found[len(points)]++
		checkTell(t, "at random", c, list, points, api.OK)
	}
	if found[-1] < 100 || found[1] < 100 || found[2] < 100 || found[3] < 40 {
		t.Errorf("%v: too few for a test", found)
	}
}
