package carve_test

import (
	"math"
	"slices"
	"testing"

	"hachure/api"
	"hachure/carve"
)

// P4.1: parts, indices, errors, and which one comes first.
func TestCheck(t *testing.T) {
	big, small := math.MaxInt, math.MinInt
	for _, f := range []struct {
		what     string
		change   func(r *api.CvRow)
		part, at int
		e        api.Errno
	}{
		{"the sample", func(r *api.CvRow) {}, 0, 0, api.OK},
		{"Steep below 0, and no points", func(r *api.CvRow) { r.Steep, r.Points = -1, nil }, 1, 0, api.ErrRange},
		{"Steep too great, and a point", func(r *api.CvRow) { r.Steep, r.Points[0].Lo = 201, -1 }, 1, 0, api.ErrRange},
		{"the greatest int as Steep", func(r *api.CvRow) { r.Steep = big }, 1, 0, api.ErrRange},
		{"the least int as Steep", func(r *api.CvRow) { r.Steep = small }, 1, 0, api.ErrRange},
		{"Steep 0", func(r *api.CvRow) { r.Steep = 0 }, 0, 0, api.OK},
		{"the greatest Steep", func(r *api.CvRow) { r.Steep = 200 }, 0, 0, api.OK},
		{"no points", func(r *api.CvRow) { r.Points = nil }, 1, 0, api.ErrLong},
		{"no points, but a list", func(r *api.CvRow) { r.Points = []api.CvPoint{} }, 1, 0, api.ErrLong},
		{"eleven points, all wrong", func(r *api.CvRow) { r.Points = slices.Repeat([]api.CvPoint{point(-1, 3, 2)}, 11) }, 1, 0, api.ErrLong},
		{"ten points", func(r *api.CvRow) { r.Points = make([]api.CvPoint, 10) }, 0, 0, api.OK},
		{"one point", func(r *api.CvRow) { r.Points = r.Points[:1] }, 0, 0, api.OK},
		{"Board below 0", func(r *api.CvRow) { r.Points[0].Board = -1 }, 2, 0, api.ErrRange},
		{"Board too great", func(r *api.CvRow) { r.Points[3].Board = 9001 }, 2, 3, api.ErrRange},
		{"Board too great, Lo above Hi", func(r *api.CvRow) { r.Points[1] = point(9001, 5, 4) }, 2, 1, api.ErrRange},
		{"Lo below 0", func(r *api.CvRow) { r.Points[1].Lo = -1 }, 2, 1, api.ErrRange},
		{"Lo too great, above Hi", func(r *api.CvRow) { r.Points[1].Lo = 9001 }, 2, 1, api.ErrRange},
		{"Hi below 0, below Lo", func(r *api.CvRow) { r.Points[2].Hi = -1 }, 2, 2, api.ErrRange},
		{"Hi too great, and far from Lo", func(r *api.CvRow) { r.Points[2].Hi = 9001 }, 2, 2, api.ErrRange},
		{"Hi too great, near Lo", func(r *api.CvRow) { r.Points[2] = point(0, 9000, 9001) }, 2, 2, api.ErrRange},
		{"the greatest int as Lo", func(r *api.CvRow) { r.Points[0].Lo = big }, 2, 0, api.ErrRange},
		{"the least int as Hi", func(r *api.CvRow) { r.Points[0].Hi = small }, 2, 0, api.ErrRange},
		{"ints far apart", func(r *api.CvRow) { r.Points[0].Lo, r.Points[0].Hi = small, big }, 2, 0, api.ErrRange},
		{"Lo above Hi", func(r *api.CvRow) { r.Points[3].Lo = 7 }, 2, 3, api.ErrArg},
		{"Lo at Hi", func(r *api.CvRow) { r.Points[3].Lo = 6 }, 0, 0, api.OK},
		{"Hi far from Lo", func(r *api.CvRow) { r.Points[0].Hi = 35 }, 2, 0, api.ErrArg},
		{"Hi just near Lo", func(r *api.CvRow) { r.Points[0].Hi = 34 }, 0, 0, api.OK},
		{"the first point decides", func(r *api.CvRow) { r.Points[1].Lo, r.Points[2].Board = 13, -1 }, 2, 1, api.ErrArg},
		{"the lowest points", func(r *api.CvRow) { r.Points[0] = point(0, 0, 0) }, 0, 0, api.OK},
		{"the highest points", func(r *api.CvRow) { r.Points[0] = point(9000, 8970, 9000) }, 0, 0, api.OK},
		{"no good surface", func(r *api.CvRow) { r.Points[0] = point(9000, 9000, 9000) }, 0, 0, api.OK},
	} {
		r := hill(2)
		f.change(&r)
		if part, at, e := carve.Check(r); part != f.part || at != f.at || e != f.e {
			t.Errorf("%s: Check = %d, %d, %d", f.what, part, at, e)
		}
		checkErrors(t, f.what, r, f.e)
	}
}

// checkErrors checks that each function returns the error of Check first, and nothing else with it.
func checkErrors(t *testing.T, what string, r api.CvRow, e api.Errno) {
	t.Helper()
	if e == api.OK {
		return
	}
	for _, surface := range [][]int{nil, {8, 9, 7, 6}, {-1, 9001}} {
		checkSurfaceErrors(t, what, r, surface, e)
	}
	for _, passes := range [][]api.CvPass{nil, {pass(0, 0)}, {pass(-1, 0), pass(1, 0)}, make([]api.CvPass, 61)} {
		checkCarved(t, what, r, passes, nil, e)
	}
	checkDown(t, what, r, e)
	if a, b, f := carve.Prevents(r); a != 0 || b != 0 || f != e {
		t.Errorf("%s: Prevents = %d, %d, %d", what, a, b, f)
	}
	if n, f := carve.Need(r); n != 0 || f != e {
		t.Errorf("%s: Need = %d, %d", what, n, f)
	}
}

// checkSurfaceErrors checks that each function with a surface returns this error alone.
func checkSurfaceErrors(t *testing.T, what string, r api.CvRow, surface []int, e api.Errno) {
	t.Helper()
	checkWhy(t, what, r, surface, 0, 0, e)
	checkPasses(t, what, r, surface, nil, e)
	if n, f := carve.Plaster(r, surface); n != 0 || f != e {
		t.Errorf("%s: Plaster of %v = %d, %d, not %d", what, surface, n, f, e)
	}
}

// checkDown checks that the functions that need a good surface return this error alone.
func checkDown(t *testing.T, what string, r api.CvRow, e api.Errno) {
	t.Helper()
	if l, f := carve.Bounds(r); len(l) > 0 || f != e {
		t.Errorf("%s: Bounds = %v, %d", what, l, f)
	}
	checkBest(t, what, r, false, cut{}, e)
	checkBest(t, what, r, true, cut{}, e)
}

func checkWhy(t *testing.T, what string, r api.CvRow, surface []int, at, why int, e api.Errno) {
	t.Helper()
	if a, w, f := carve.Why(r, surface); a != at || w != why || f != e {
		t.Errorf("%s: Why of %v = %d, %d, %d, not %d, %d, %d", what, surface, a, w, f, at, why, e)
	}
}

func checkPasses(t *testing.T, what string, r api.CvRow, surface []int, want []api.CvPass, e api.Errno) {
	t.Helper()
	if l, f := carve.Passes(r, surface); !slices.Equal(l, want) || f != e {
		t.Errorf("%s: Passes of %v = %v, %d, not %v, %d", what, surface, l, f, want, e)
	}
}

func checkCarved(t *testing.T, what string, r api.CvRow, passes []api.CvPass, want []int, e api.Errno) {
	t.Helper()
	if l, f := carve.Carved(r, passes); !slices.Equal(l, want) || f != e {
		t.Errorf("%s: Carved of %v = %v, %d, not %v, %d", what, passes, l, f, want, e)
	}
}

func checkBest(t *testing.T, what string, r api.CvRow, passes bool, want cut, e api.Errno) {
	t.Helper()
	l, plaster, many, f := carve.Best(r, passes)
	if !slices.Equal(l, want.surface) || plaster != want.plaster || many != want.many || f != e {
		t.Errorf("%s: %v: Best with passes %v = %v, %d, %d, %d, not %v, %d", what, r, passes, l, plaster, many, f, want, e)
	}
}

func checkPrevents(t *testing.T, what string, r api.CvRow, a, b int, e api.Errno) {
	t.Helper()
	if c, d, f := carve.Prevents(r); c != a || d != b || f != e {
		t.Errorf("%s: %v: Prevents = %d, %d, %d, not %d, %d, %d", what, r, c, d, f, a, b, e)
	}
}

func checkNeed(t *testing.T, what string, r api.CvRow, want int) {
	t.Helper()
	if n, e := carve.Need(r); n != want || e != api.OK {
		t.Errorf("%s: %v: Need = %d, %d, not %d", what, r, n, e, want)
	}
}

// The examples of the chapter, and the fourth one of the document.
func TestExamples(t *testing.T) {
	r := hill(2)
	checkWhy(t, "R", r, []int{8, 9, 8, 6}, 0, api.CvGood, api.OK)
	checkWhy(t, "R", r, []int{8, 9, 7, 4}, 3, api.CvSteep, api.OK)
	checkWhy(t, "R", r, []int{9, 12, 8, 6}, 0, api.CvHigh, api.OK)
	checkWhy(t, "R", r, []int{3, 9, 7, 6}, 0, api.CvLow, api.OK)
	if l, e := carve.Bounds(r); !slices.Equal(l, []api.Span{span(7, 8), span(9, 10), span(7, 8), span(5, 6)}) || e != api.OK {
		t.Errorf("Bounds = %v, %d", l, e)
	}
	checkPrevents(t, "R", r, 0, 0, api.ErrNone)
	checkPrevents(t, "S", hill(1), 1, 3, api.OK)
	checkNeed(t, "R", r, 2)
	checkNeed(t, "S", hill(1), 2)
	checkNeed(t, "T", plate(), 0)
	if n, e := carve.Plaster(r, []int{8, 9, 8, 6}); n != 2 || e != api.OK {
		t.Errorf("Plaster = %d, %d", n, e)
	}
	last := pass(3, 3)
	checkPasses(t, "R", r, []int{8, 9, 8, 6}, []api.CvPass{pass(0, 1), last, pass(0, 0), last, last, last, last, last}, api.OK)
	checkCarved(t, "R", r, []api.CvPass{pass(0, 1), last}, []int{1, 1, 0, 1}, api.OK)
	for _, passes := range []bool{false, true} {
		checkBest(t, "R", r, passes, cut{[]int{8, 9, 7, 6}, 1, 8}, api.OK)
	}
	checkBest(t, "T", plate(), false, cut{[]int{8, 8}, 0, 2}, api.OK)
	checkBest(t, "T", plate(), true, cut{[]int{10, 10}, 2, 0}, api.OK)
}

// P4.2: which of several applies at a point, the first point, and against the definition.
func TestWhy(t *testing.T) {
	r := row(3, point(0, 5, 9), point(0, 5, 9), point(0, 5, 9))
	for _, o := range []struct {
		surface []int
		at, why int
	}{
		{[]int{5, 5, 5}, 0, api.CvGood}, {[]int{9, 9, 9}, 0, api.CvGood}, {[]int{5, 8, 5}, 0, api.CvGood}, {[]int{9, 6, 9}, 0, api.CvGood},
		{[]int{4, 5, 5}, 0, api.CvLow}, {[]int{10, 9, 9}, 0, api.CvHigh}, {[]int{5, 9, 9}, 1, api.CvSteep}, {[]int{9, 5, 5}, 1, api.CvSteep},
		{[]int{9, 4, 9}, 1, api.CvLow}, {[]int{5, 10, 5}, 1, api.CvHigh}, {[]int{5, 5, 9}, 2, api.CvSteep}, {[]int{9, 9, 5}, 2, api.CvSteep},
		{[]int{8, 8, 4}, 2, api.CvLow}, {[]int{8, 8, 10}, 2, api.CvHigh}, {[]int{5, 9, 4}, 1, api.CvSteep}, {[]int{0, 9000, 0}, 0, api.CvLow},
		{[]int{9000, 0, 0}, 0, api.CvHigh}, {[]int{5, 0, 9000}, 1, api.CvLow},
	} {
		checkWhy(t, "by hand", r, o.surface, o.at, o.why, api.OK)
	}
	d := dice(1)
	found := [4]int{}
	for range 3000 {
		r := d.row(d.from(1, 10), 20, 10)
		surface := d.surface(r)
		at, not := why(r, surface)
		found[not]++
		checkWhy(t, "at random", r, surface, at, not, api.OK)
	}
	if slices.Min(found[:]) < 100 {
		t.Errorf("%v: too few for a test", found)
	}
}

// P4.2, P4.5: the errors of surfaces.
func TestErrorsOfSurfaces(t *testing.T) {
	for _, o := range []struct {
		surface []int
		e       api.Errno
	}{
		{nil, api.ErrLong}, {[]int{8, 9, 7}, api.ErrLong}, {[]int{8, 9, 7, 6, 6}, api.ErrLong}, {[]int{-1}, api.ErrLong}, {[]int{-1, 9001, 9001, 9001, -1}, api.ErrLong}, {make([]int, 1000), api.ErrLong},
		{[]int{-1, 9, 7, 6}, api.ErrRange}, {[]int{3, 9, 7, 9001}, api.ErrRange}, {[]int{3, 13, 7, math.MinInt}, api.ErrRange}, {[]int{8, math.MaxInt, 7, 6}, api.ErrRange},
	} {
		checkSurfaceErrors(t, "R", hill(2), o.surface, o.e)
		checkSurfaceErrors(t, "S", hill(1), o.surface, o.e)
	}
	// No surface of S is good, but any can be looked at.
	for _, surface := range [][]int{{0, 0, 0, 0}, {9000, 9000, 9000, 9000}, {8, 9, 8, 7}} {
		if _, _, e := carve.Why(hill(1), surface); e != api.OK {
			t.Errorf("Why of %v: %d", surface, e)
		}
		if _, e := carve.Plaster(hill(1), surface); e != api.OK {
			t.Errorf("Plaster of %v: %d", surface, e)
		}
		if _, e := carve.Passes(hill(1), surface); e != api.OK {
			t.Errorf("Passes of %v: %d", surface, e)
		}
	}
}

// allowNone reports whether two points allow no surface.
func allowNone(r api.CvRow, a, b int) bool {
	climb := r.Steep * (b - a)
	return r.Points[a].Lo > r.Points[b].Hi+climb || r.Points[b].Lo > r.Points[a].Hi+climb
}

// P4.3: by hand, and against all surfaces of small rows.
func TestBoundsPrevents(t *testing.T) {
	peak := row(2, point(0, 0, 20), point(0, 0, 20), point(0, 12, 12), point(0, 0, 20), point(0, 0, 9))
	if l, e := carve.Bounds(peak); !slices.Equal(l, []api.Span{span(8, 16), span(10, 14), span(12, 12), span(10, 11), span(8, 9)}) || e != api.OK {
		t.Errorf("Bounds of a peak = %v, %d", l, e)
	}
	one := row(0, point(50, 3, 33))
	if l, e := carve.Bounds(one); !slices.Equal(l, []api.Span{span(3, 33)}) || e != api.OK {
		t.Errorf("Bounds of a point = %v, %d", l, e)
	}
	checkPrevents(t, "a point", one, 0, 0, api.ErrNone)
	// Which ones of several: the least b, and then the greatest a, whichever of them is higher.
	low, high := point(0, 0, 1), point(0, 9, 9)
	checkPrevents(t, "a step", row(7, low, high), 0, 1, api.OK)
	checkPrevents(t, "a step that is not too steep", row(8, low, high), 0, 0, api.ErrNone)
	checkPrevents(t, "a step down", row(7, high, low), 0, 1, api.OK)
	checkPrevents(t, "two steps", row(4, low, point(0, 0, 9), high, low), 2, 3, api.OK)
	checkPrevents(t, "a long step", row(3, low, point(0, 0, 9), high, point(0, 6, 9), low), 0, 2, api.OK)
	checkPrevents(t, "three at once", row(0, low, low, high, low, high), 1, 2, api.OK)
	checkPrevents(t, "over a gentle one", row(1, point(0, 5, 5), point(0, 0, 9), point(0, 0, 9), low, high), 0, 3, api.OK)
	checkPrevents(t, "the far ends", row(200, append([]api.CvPoint{point(0, 0, 0)}, slices.Repeat([]api.CvPoint{point(0, 900, 930)}, 9)...)...), 0, 1, api.OK)
	checkDown(t, "S", hill(1), api.ErrDown)
	d := dice(2)
	good := 0
	for i := range 2000 {
		r := d.small()
		var want []api.Span
		for surface := range surfaces(r) {
			for at, height := range surface {
				if at == len(want) {
					want = append(want, span(height, height))
				}
				want[at] = span(min(want[at].Lo, height), max(want[at].Hi, height))
			}
		}
		if len(want) == 0 {
			checkDown(t, "no surface", r, api.ErrDown)
			a, b := firstPair(r)
			checkPrevents(t, "no surface", r, a, b, api.OK)
			continue
		}
		good++
		if l, e := carve.Bounds(r); !slices.Equal(l, want) || e != api.OK {
			t.Errorf("%d: %v: Bounds = %v, %d, not %v", i, r, l, e, want)
		}
		checkPrevents(t, "some surface", r, 0, 0, api.ErrNone)
	}
	if good < 500 || good > 1500 {
		t.Errorf("%d good rows: too few or too many for a test", good)
	}
}

// firstPair returns the points that Prevents has to name, found from all that allow no surface.
func firstPair(r api.CvRow) (a, b int) {
	a, b = -1, len(r.Points)
	for x := range r.Points {
		for y := x; y < len(r.Points); y++ {
			if allowNone(r, x, y) && (y < b || y == b && x > a) {
				a, b = x, y
			}
		}
	}
	return a, b
}

// P4.4: by hand, and against all surfaces of small rows.
func TestNeed(t *testing.T) {
	low, high := point(0, 0, 1), point(0, 9, 12)
	any := point(0, 0, 30)
	for _, o := range []struct {
		what string
		r    api.CvRow
		want int
	}{
		{"a point", row(0, high), 0},
		{"flat", row(5, low, low), 0},
		{"a step", row(0, low, high), 8},
		{"a step down", row(0, high, low), 8},
		{"two steps", row(200, low, any, high), 4},
		{"three steps, rounded up", row(0, low, any, any, high), 3},
		{"eight steps", row(0, low, any, any, any, any, any, any, any, high), 1},
		{"nine steps, rounded up", row(0, low, any, any, any, any, any, any, any, any, high), 1},
		{"the steepest of several", row(0, low, any, high, any, point(0, 0, 0)), 5},
		{"bands that meet in one height", row(0, low, point(0, 1, 9), point(0, 0, 1)), 0},
		{"above MaxCvSteep", row(200, point(0, 0, 0), point(0, 9000, 9000)), 9000},
		{"above MaxCvSteep over a point", row(0, point(0, 8970, 9000), point(0, 4000, 4030), point(0, 0, 30)), 4940},
	} {
		checkNeed(t, o.what, o.r, o.want)
	}
	d := dice(3)
	found := map[int]int{}
	for range 1000 {
		r := d.small()
		steeper := clone(r)
		steeper.Steep = 0
		for !anyGood(steeper) {
			steeper.Steep++
		}
		found[steeper.Steep]++
		checkNeed(t, "at random", r, steeper.Steep)
	}
	if len(found) < 8 {
		t.Errorf("%v: too few for a test", found)
	}
}

// P4.5: by hand, and against the definition.
func TestPlaster(t *testing.T) {
	r := row(0, point(10, 0, 0), point(0, 9000, 9000), point(9000, 7, 8))
	for _, o := range []struct {
		surface []int
		want    int
	}{
		{[]int{10, 0, 9000}, 0}, {[]int{11, 0, 9000}, 1}, {[]int{9, 0, 8999}, 0}, {[]int{0, 1, 0}, 1}, {[]int{12, 3, 9000}, 5}, {[]int{9000, 9000, 9000}, 17990}, {[]int{0, 0, 0}, 0},
	} {
		if n, e := carve.Plaster(r, o.surface); n != o.want || e != api.OK {
			t.Errorf("Plaster of %v = %d, %d, not %d", o.surface, n, e, o.want)
		}
	}
	all := row(0, make([]api.CvPoint, 10)...)
	if n, e := carve.Plaster(all, slices.Repeat([]int{9000}, 10)); n != 90000 || e != api.OK {
		t.Errorf("Plaster of the most = %d, %d", n, e)
	}
	d := dice(4)
	for range 1000 {
		r := d.row(d.from(1, 10), 20, 10)
		surface := d.surface(r)
		if n, e := carve.Plaster(r, surface); n != plaster(r, surface) || e != api.OK {
			t.Errorf("%v: Plaster of %v = %d, %d", r, surface, n, e)
		}
	}
}

// layers returns the passes of points that are carved so deep, in their order: each is as long as can be.
func layers(depths []int) (list []api.CvPass) {
	for deep := 1; deep <= 60; deep++ {
		for from := 0; from < len(depths); from++ {
			to := from
			for to < len(depths) && depths[to] >= deep {
				to++
			}
			if to > from {
				list = append(list, pass(from, to-1))
				from = to
			}
		}
	}
	return list
}

// P4.5: by hand, up to the limit, and against the definition.
func TestPasses(t *testing.T) {
	flat := row(0, slices.Repeat([]api.CvPoint{point(100, 0, 0)}, 5)...)
	for _, o := range []struct {
		surface []int
		want    []api.CvPass
	}{
		{[]int{100, 100, 100, 100, 100}, nil},
		{[]int{101, 200, 9000, 100, 100}, nil},
		{[]int{99, 99, 99, 99, 99}, []api.CvPass{pass(0, 4)}},
		{[]int{99, 100, 99, 101, 99}, []api.CvPass{pass(0, 0), pass(2, 2), pass(4, 4)}},
		{[]int{100, 99, 98, 99, 100}, []api.CvPass{pass(1, 3), pass(2, 2)}},
		{[]int{98, 99, 98, 98, 99}, []api.CvPass{pass(0, 4), pass(0, 0), pass(2, 3)}},
		{[]int{98, 100, 98, 100, 100}, []api.CvPass{pass(0, 0), pass(2, 2), pass(0, 0), pass(2, 2)}},
		{[]int{97, 99, 98, 100, 99}, []api.CvPass{pass(0, 2), pass(4, 4), pass(0, 0), pass(2, 2), pass(0, 0)}},
		{[]int{100, 100, 100, 100, 40}, slices.Repeat([]api.CvPass{pass(4, 4)}, 60)},
		{[]int{40, 40, 40, 40, 40}, slices.Repeat([]api.CvPass{pass(0, 4)}, 60)},
		{[]int{70, 100, 70, 100, 100}, slices.Repeat([]api.CvPass{pass(0, 0), pass(2, 2)}, 30)},
	} {
		checkPasses(t, "by hand", flat, o.surface, o.want, api.OK)
	}
	for _, surface := range [][]int{{39, 39, 39, 39, 39}, {39, 100, 100, 100, 100}, {70, 100, 69, 100, 100}, {40, 100, 100, 100, 99}, {80, 100, 80, 100, 79}, {0, 9000, 0, 9000, 0}} {
		checkPasses(t, "too many", flat, surface, nil, api.ErrDown)
	}
	checkPasses(t, "the deepest", row(0, point(9000, 0, 0)), []int{0}, nil, api.ErrDown)
	d := dice(5)
	down := 0
	for range 3000 {
		r := d.row(d.from(1, 10), 60, 10)
		surface := d.surface(r)
		deep := depths(r, surface)
		if count(deep) > 60 {
			down++
			checkPasses(t, "too many", r, surface, nil, api.ErrDown)
			continue
		}
		checkPasses(t, "at random", r, surface, layers(deep), api.OK)
	}
	if down < 500 || down > 2500 {
		t.Errorf("%d with too many passes: too few or too many for a test", down)
	}
}

// P4.5: by hand, the errors of passes, and against the definition.
func TestCarved(t *testing.T) {
	r := hill(2)
	big, small := math.MaxInt, math.MinInt
	for _, o := range []struct {
		what   string
		passes []api.CvPass
		want   []int
		e      api.Errno
	}{
		{"none", nil, []int{0, 0, 0, 0}, api.OK},
		{"all", []api.CvPass{pass(0, 3)}, []int{1, 1, 1, 1}, api.OK},
		{"in any order", []api.CvPass{pass(3, 3), pass(0, 1), pass(1, 2), pass(1, 1)}, []int{1, 3, 1, 1}, api.OK},
		{"60", slices.Repeat([]api.CvPass{pass(1, 2)}, 60), []int{0, 60, 60, 0}, api.OK},
		{"61", slices.Repeat([]api.CvPass{pass(1, 2)}, 61), nil, api.ErrLong},
		{"61, all wrong", slices.Repeat([]api.CvPass{pass(-1, 9)}, 61), nil, api.ErrLong},
		{"From below 0", []api.CvPass{pass(-1, 2)}, nil, api.ErrNone},
		{"From too great, above To", []api.CvPass{pass(4, 2)}, nil, api.ErrNone},
		{"To too great", []api.CvPass{pass(0, 4)}, nil, api.ErrNone},
		{"To below 0, below From", []api.CvPass{pass(0, -1)}, nil, api.ErrNone},
		{"far beyond", []api.CvPass{pass(small, big)}, nil, api.ErrNone},
		{"From above To", []api.CvPass{pass(2, 1)}, nil, api.ErrArg},
		{"the first one decides", []api.CvPass{pass(0, 0), pass(3, 0), pass(4, 4)}, nil, api.ErrArg},
		{"the first one decides", []api.CvPass{pass(0, 0), pass(4, 4), pass(3, 0)}, nil, api.ErrNone},
	} {
		checkCarved(t, o.what, r, o.passes, o.want, o.e)
		checkCarved(t, o.what, hill(1), o.passes, o.want, o.e)
	}
	d := dice(6)
	for range 1000 {
		r := d.row(d.from(1, 10), 20, 10)
		want := make([]int, len(r.Points))
		var passes []api.CvPass
		for range d.roll(61) {
			from := d.roll(len(want))
			p := pass(from, d.from(from, len(want)-1))
			passes = append(passes, p)
			for at := range want {
				if at >= p.From && at <= p.To {
					want[at]++
				}
			}
		}
		checkCarved(t, "at random", r, passes, want, api.OK)
	}
}

// P4.6: by hand, and against all surfaces of small rows, and of long ones.
func TestBest(t *testing.T) {
	for _, o := range []struct {
		what  string
		r     api.CvRow
		first cut // the least plaster
		other cut // the fewest passes
	}{
		{"nothing to do", row(0, point(5, 5, 5)), cut{[]int{5}, 0, 0}, cut{[]int{5}, 0, 0}},
		{"nothing need be done", row(9, point(5, 0, 9), point(7, 0, 9)), cut{[]int{5, 7}, 0, 0}, cut{[]int{5, 7}, 0, 0}},
		{"fill", row(0, point(5, 7, 9)), cut{[]int{7}, 2, 0}, cut{[]int{7}, 2, 0}},
		{"carve", row(0, point(9, 2, 6)), cut{[]int{6}, 0, 3}, cut{[]int{6}, 0, 3}},
		{"the deepest", row(0, point(9000, 0, 0)), cut{[]int{0}, 0, 9000}, cut{[]int{0}, 0, 9000}},
		{"the highest", row(0, point(0, 9000, 9000)), cut{[]int{9000}, 9000, 0}, cut{[]int{9000}, 9000, 0}},
		{"61 passes", row(0, point(61, 0, 0), point(61, 0, 0)), cut{[]int{0, 0}, 0, 61}, cut{[]int{0, 0}, 0, 61}},
		{"one after the other", row(200, point(100, 0, 0), point(0, 0, 0), point(100, 0, 0)), cut{[]int{0, 0, 0}, 0, 200}, cut{[]int{0, 0, 0}, 0, 200}},
		// Deeper beside a deep point needs no pass more: of several the lowest.
		{"beside a deep one", row(9, point(9, 4, 4), point(9, 3, 9)), cut{[]int{4, 4}, 0, 5}, cut{[]int{4, 4}, 0, 5}},
		{"ahead of a deep one", row(9, point(9, 3, 9), point(9, 4, 4)), cut{[]int{4, 4}, 0, 5}, cut{[]int{4, 4}, 0, 5}},
		// What is between deep points is carved with them in one pass, if it can be carved.
		{"between deep ones", row(9, point(9, 6, 6), point(9, 0, 9), point(9, 6, 6)), cut{[]int{6, 6, 6}, 0, 3}, cut{[]int{6, 6, 6}, 0, 3}},
		{"a wall between deep ones", row(9, point(9, 6, 6), point(7, 7, 8), point(9, 6, 6)), cut{[]int{6, 7, 6}, 0, 6}, cut{[]int{6, 7, 6}, 0, 6}},
		{"plaster or passes", row(1, point(9, 5, 8), point(6, 5, 8)), cut{[]int{7, 6}, 0, 2}, cut{[]int{8, 7}, 1, 1}},
		{"too steep to fill little", row(0, point(10, 0, 20), point(8, 0, 20), point(3, 0, 20)), cut{[]int{3, 3, 3}, 0, 7}, cut{[]int{10, 10, 10}, 9, 0}},
	} {
		checkBest(t, o.what, o.r, false, o.first, api.OK)
		checkBest(t, o.what, o.r, true, o.other, api.OK)
	}
	d := dice(7)
	differ := 0
	for i := range 5000 {
		r := d.small()
		switch {
		case i%20 == 0:
			r = d.row(10, 6, 2)
			r.Steep = d.from(1, 4)
		case i%2 == 0:
			r.Steep = d.roll(2)
		}
		least, is := best(r, false)
		if !is {
			checkDown(t, "no surface", r, api.ErrDown)
			continue
		}
		fewest, _ := best(r, true)
		if least.many != fewest.many {
			differ++
		}
		checkBest(t, "at random", r, false, least, api.OK)
		checkBest(t, "at random", r, true, fewest, api.OK)
	}
	if differ < 200 {
		t.Errorf("%d rows for which it matters what comes first: too few for a test", differ)
	}
}
