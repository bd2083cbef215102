package carve_test

import (
	"math"
	"slices"
	"testing"

	"hachure/api"
	"hachure/carve"
)

// inside reports whether a span is not wider than another one.
func inside(in, out api.Span) bool { return in.Lo >= out.Lo && in.Hi <= out.Hi }

// bounds returns what Bounds does, and whether some surface is good.
func bounds(t *testing.T, r api.CvRow) ([]api.Span, bool) {
	t.Helper()
	l, e := carve.Bounds(r)
	if e == api.ErrDown {
		return nil, false
	}
	if len(l) != len(r.Points) || e != api.OK {
		t.Fatalf("%v: Bounds = %v, %d", r, l, e)
	}
	return l, true
}

// bestOf returns what Best does for a row with a good surface, which it checks.
func bestOf(t *testing.T, r api.CvRow, passes bool) cut {
	t.Helper()
	l, plaster, many, e := carve.Best(r, passes)
	if e != api.OK || !isGood(t, r, l) {
		t.Fatalf("%v: Best = %v, %d, %d, %d", r, l, plaster, many, e)
	}
	return cut{l, plaster, many}
}

// isGood reports whether a surface is good, as Why says.
func isGood(t *testing.T, r api.CvRow, surface []int) bool {
	t.Helper()
	_, why, e := carve.Why(r, surface)
	if e != api.OK {
		t.Fatalf("%v: Why of %v: %d", r, surface, e)
	}
	return why == api.CvGood
}

// need returns what Need does.
func need(t *testing.T, r api.CvRow) int {
	t.Helper()
	n, e := carve.Need(r)
	if n < 0 || e != api.OK {
		t.Fatalf("%v: Need = %d, %d", r, n, e)
	}
	return n
}

// first returns what Best puts first, and what it puts then.
func first(c cut, passes bool) [2]int {
	if passes {
		return [2]int{c.many, c.plaster}
	}
	return [2]int{c.plaster, c.many}
}

// P4.7: good surfaces are within Bounds; both ends are good; each height between them is one of some good surface.
func TestBetween(t *testing.T) {
	d := dice(8)
	for range 300 {
		r, surface := d.gentle(30)
		bands, good := bounds(t, r)
		if !good || !isGood(t, r, surface) {
			t.Fatalf("%v: no bounds, but %v is good", r, surface)
		}
		var lower, upper []int
		for i, b := range bands {
			lower, upper = append(lower, b.Lo), append(upper, b.Hi)
			if surface[i] < b.Lo || surface[i] > b.Hi {
				t.Errorf("%v: Bounds = %v, not around %v", r, bands, surface)
			}
		}
		if !isGood(t, r, lower) || !isGood(t, r, upper) {
			t.Errorf("%v: the ends of %v are not good", r, bands)
		}
		at := d.roll(len(bands))
		for height := r.Points[at].Lo; height <= r.Points[at].Hi; height++ {
			through := clone(r)
			through.Points[at].Lo, through.Points[at].Hi = height, height
			if _, good := bounds(t, through); good != inside(span(height, height), bands[at]) {
				t.Errorf("%v: Bounds = %v; through %d at %d: %v", r, bands, height, at, good)
			}
		}
	}
}

// P4.8: two points prevent all surfaces, or there is one.
func TestNone(t *testing.T) {
	d := dice(9)
	none := 0
	for range 3000 {
		r := d.row(d.from(1, 10), 60, 30)
		a, b, e := carve.Prevents(r)
		bands, good := bounds(t, r)
		switch {
		case e == api.ErrNone:
			if !good || !isGood(t, r, d.walk(r, bands)) {
				t.Errorf("%v: Prevents names none, but Bounds = %v", r, bands)
			}
		case e == api.OK:
			none++
			if good || !allowNone(r, a, b) {
				t.Errorf("%v: Prevents = %d, %d, but Bounds = %v", r, a, b, bands)
			}
		default:
			t.Errorf("%v: Prevents = %d, %d, %d", r, a, b, e)
		}
	}
	if none < 500 || none > 2500 {
		t.Errorf("%d rows that are prevented: too few or too many for a test", none)
	}
}

// P4.9: no good surface is better than that of Best.
func TestLeast(t *testing.T) {
	d := dice(10)
	for range 200 {
		r, _ := d.gentle(30)
		bands, _ := bounds(t, r)
		plain, fewest := bestOf(t, r, false), bestOf(t, r, true)
		for _, c := range []cut{plain, fewest} {
			n, e := carve.Plaster(r, c.surface)
			if n != c.plaster || e != api.OK || c.many != count(depths(r, c.surface)) {
				t.Errorf("%v: Best = %v; Plaster = %d, %d", r, c, n, e)
			}
			if l, e := carve.Passes(r, c.surface); c.many <= 60 && (len(l) != c.many || e != api.OK) || c.many > 60 && e != api.ErrDown {
				t.Errorf("%v: Best = %v; Passes = %v, %d", r, c, l, e)
			}
		}
		for range 50 {
			surface := d.walk(r, bands)
			c := cut{surface, plaster(r, surface), count(depths(r, surface))}
			for passes, most := range map[bool]cut{false: plain, true: fewest} {
				has, least := first(c, passes), first(most, passes)
				by := slices.Compare(has[:], least[:])
				if by < 0 || by == 0 && slices.Compare(surface, most.surface) < 0 {
					t.Errorf("%v: Best with passes %v = %v, but there is %v", r, passes, most, c)
				}
			}
		}
	}
}

// P4.10: the passes lower each point by just what is carved; of all passes that do so none are fewer.
func TestFewestPasses(t *testing.T) {
	digger := digger{}
	for code := range 5 * 5 * 5 * 5 {
		deep := [4]int{code % 5, code / 5 % 5, code / 25 % 5, code / 125}
		r := row(0)
		for range deep {
			r.Points = append(r.Points, point(10, 0, 0))
		}
		var surface []int
		for _, n := range deep {
			surface = append(surface, 10-n)
		}
		passes, e := carve.Passes(r, surface)
		if len(passes) != digger.fewest(deep) || e != api.OK {
			t.Errorf("%v: Passes = %v, %d; %d are enough", deep, passes, e, digger.fewest(deep))
		}
		checkCarved(t, "what is carved", r, passes, deep[:], api.OK)
		if _, _, many, e := carve.Best(fixed(r, surface), false); many != len(passes) || e != api.OK {
			t.Errorf("%v: Best has %d passes, %d, not %d", deep, many, e, len(passes))
		}
	}
	d := dice(11)
	for range 1000 {
		r := d.row(d.from(1, 10), 20, 10)
		surface := d.surface(r)
		if passes, e := carve.Passes(r, surface); e == api.OK {
			checkCarved(t, "what is carved", r, passes, depths(r, surface), api.OK)
		}
	}
}

// fixed returns a row with just one good surface.
func fixed(r api.CvRow, surface []int) api.CvRow {
	r = clone(r)
	r.Steep = api.MaxCvSteep
	for i, height := range surface {
		r.Points[i].Lo, r.Points[i].Hi = height, height
	}
	return r
}

// P4.11: with Need as Steep some surface is good, with less none is.
func TestSteeper(t *testing.T) {
	d := dice(12)
	for range 2000 {
		r := d.row(d.from(1, 10), 150, 10)
		n := need(t, r)
		if _, good := bounds(t, r); good != (n <= r.Steep) {
			t.Errorf("%v: Need = %d, and some surface is good: %v", r, n, good)
		}
		steeper := clone(r)
		steeper.Steep = n
		if _, good := bounds(t, steeper); !good || need(t, steeper) != n {
			t.Errorf("%v: Need = %d is not enough", r, n)
		}
		for less := range n {
			steeper.Steep = less
			if _, good := bounds(t, steeper); good {
				t.Errorf("%v: Need = %d, but %d is enough", r, n, less)
			}
		}
	}
}

// P4.12: with a greater Steep, a lesser Lo or a greater Hi no range is narrower, and Best is no worse.
func TestWider(t *testing.T) {
	d := dice(13)
	better := 0
	for range 1000 {
		r, _ := d.gentle(20)
		wider := clone(r)
		p := &wider.Points[d.roll(len(r.Points))]
		switch d.roll(3) {
		case 0:
			wider.Steep += d.from(1, 9)
		case 1:
			p.Lo = max(0, p.Lo-d.from(1, 9))
		default:
			p.Hi = min(api.MaxHeight, p.Hi+d.from(1, 9))
		}
		before, _ := bounds(t, r)
		after, good := bounds(t, wider)
		if !good {
			t.Fatalf("%v: no surface is good, but some is of %v", wider, r)
		}
		for i := range before {
			if !inside(before[i], after[i]) {
				t.Errorf("%v: Bounds = %v; %v: %v", r, before, wider, after)
			}
		}
		for _, passes := range []bool{false, true} {
			a, b := first(bestOf(t, r, passes), passes), first(bestOf(t, wider, passes), passes)
			if slices.Compare(b[:], a[:]) > 0 {
				t.Errorf("%v: Best with passes %v needs %v; %v: %v", r, passes, a, wider, b)
			}
			if b != a {
				better++
			}
		}
	}
	if better < 200 {
		t.Errorf("%d that are better: too few for a test", better)
	}
}

// P4.13: with the points in the opposite order, all is the other way round.
func TestTurned(t *testing.T) {
	d := dice(14)
	for range 2000 {
		r := d.row(d.from(1, 10), 60, 30)
		back := turned(r)
		if a, b := need(t, r), need(t, back); a != b {
			t.Errorf("%v: Need = %d, turned: %d", r, a, b)
		}
		bands, good := bounds(t, r)
		other, fine := bounds(t, back)
		slices.Reverse(other)
		if good != fine || !slices.Equal(bands, other) {
			t.Errorf("%v: Bounds = %v, turned: %v", r, bands, other)
		}
		if !good {
			continue
		}
		for _, passes := range []bool{false, true} {
			if a, b := bestOf(t, r, passes), bestOf(t, back, passes); first(a, passes) != first(b, passes) {
				t.Errorf("%v: Best with passes %v = %v, turned: %v", r, passes, a, b)
			}
		}
	}
}

// P4.14: raised heights, and boards that are higher than all surfaces.
func TestRaised(t *testing.T) {
	d := dice(15)
	for range 500 {
		r := d.row(d.from(1, 10), 60, 30)
		by := d.from(1, 8000)
		raised, high := clone(r), clone(r)
		for i := range r.Points {
			p, h := &raised.Points[i], &high.Points[i]
			p.Board, p.Lo, p.Hi = p.Board+by, p.Lo+by, p.Hi+by
			h.Board += 61
		}
		bands, good := bounds(t, r)
		above, fine := bounds(t, raised)
		for i := range bands {
			bands[i] = span(bands[i].Lo+by, bands[i].Hi+by)
		}
		if good != fine || !slices.Equal(bands, above) || need(t, r) != need(t, raised) {
			t.Errorf("%v: raised by %d Bounds = %v, not %v", r, by, above, bands)
		}
		if !good {
			continue
		}
		for _, passes := range []bool{false, true} {
			c := bestOf(t, r, passes)
			for i := range c.surface {
				c.surface[i] += by
			}
			checkBest(t, "raised", raised, passes, c, api.OK)
			if c := bestOf(t, high, passes); c.plaster != 0 {
				t.Errorf("%v: Best with passes %v = %v: the boards are higher", high, passes, c)
			}
		}
	}
}

// P4.15: a row is parted at a point with just one height.
func TestParted(t *testing.T) {
	d := dice(16)
	whole := 0
	for range 3000 {
		r := d.row(d.from(1, 10), 40, 30)
		at := d.roll(len(r.Points))
		p := &r.Points[at]
		p.Hi = p.Lo
		left, right := clone(r), clone(r)
		left.Points, right.Points = left.Points[:at+1], right.Points[at:]
		_, good := bounds(t, r)
		_, can := bounds(t, left)
		_, also := bounds(t, right)
		if good != (can && also) {
			t.Errorf("%v: parted at %d: %v, but %v and %v", r, at, good, can, also)
		}
		if !good {
			continue
		}
		whole++
		sum := bestOf(t, left, false).plaster + bestOf(t, right, false).plaster - max(0, p.Lo-p.Board)
		if c := bestOf(t, r, false); c.plaster != sum {
			t.Errorf("%v: Best = %v; parted at %d it needs %d", r, c, at, sum)
		}
	}
	if whole < 500 {
		t.Errorf("%d rows with a good surface: too few for a test", whole)
	}
}

// P1: the greatest rows are gone through.
func TestGreatest(t *testing.T) {
	var r api.CvRow
	r.Steep = api.MaxCvSteep
	for i := range api.MaxCvPoints {
		r.Points = append(r.Points, point(9000*(i%2), 4000+i, 4030+i))
	}
	// Carved by at least 4961 to 4969 at each second point, and filled by 4000 to 4008 at those between.
	least, fewest := bestOf(t, r, false), bestOf(t, r, true)
	if least.plaster != 20020 || fewest.many != 24825 || fewest.plaster != 20020 || least.many != 24825 {
		t.Errorf("Best = %v and %v", least, fewest)
	}
	if n := need(t, r); n != 0 {
		t.Errorf("Need = %d", n)
	}
}

// P1, P4.16: any arguments are accepted.
func TestAnyArguments(t *testing.T) {
	d := dice(17)
	odd := []int{math.MinInt, math.MinInt + 1, -9000, -1, 0, 0, 1, 2, 5, 10, 30, 31, 200, 201, 8970, 9000, 9001, math.MaxInt - 1, math.MaxInt}
	pick := func() int { return odd[d.roll(len(odd))] }
	numbers := func(most int) (list []int) {
		for range d.roll(most + 1) {
			list = append(list, pick())
		}
		return list
	}
	for range 5000 {
		r := hill(2)
		if d.roll(3) == 0 {
			r.Steep = pick()
		}
		if d.roll(2) == 0 {
			r.Points = nil
		}
		for range d.roll(4) {
			r.Points = append(r.Points, point(pick(), pick(), pick()))
		}
		_, _, e := carve.Check(r)
		checkErrors(t, "odd numbers", r, e)
	}
	for range 3000 {
		r, surface := hill(d.from(0, 3)), numbers(5)
		carve.Why(r, surface)
		carve.Plaster(r, surface)
		carve.Passes(r, surface)
		carve.Carved(r, []api.CvPass{pass(pick(), pick()), pass(pick(), pick())})
	}
}

// P4.16: no argument is modified.
func TestArguments(t *testing.T) {
	for _, r := range []api.CvRow{hill(2), hill(1), turned(hill(2)), row(3, slices.Repeat([]api.CvPoint{point(7, 4, 8)}, 4)...)} {
		// The points, the surface and the passes have room behind them, where nothing may be written.
		points := append(slices.Clone(r.Points), point(7, 7, 7))
		r.Points = points[:len(r.Points)]
		heights := []int{8, 9, 8, 6, 7}
		passes := []api.CvPass{pass(3, 3), pass(0, 1), pass(7, 7)}
		before, surface, some := clone(r), heights[:4], passes[:2]
		carve.Check(r)
		carve.Why(r, surface)
		carve.Bounds(r)
		carve.Prevents(r)
		carve.Need(r)
		carve.Plaster(r, surface)
		carve.Passes(r, surface)
		carve.Carved(r, some)
		carve.Best(r, false)
		carve.Best(r, true)
		if !same(r, before) || points[len(points)-1] != point(7, 7, 7) {
			t.Errorf("%v is %v", before, points)
		}
		if !slices.Equal(heights, []int{8, 9, 8, 6, 7}) || !slices.Equal(passes, []api.CvPass{pass(3, 3), pass(0, 1), pass(7, 7)}) {
			t.Errorf("the surface is %v, the passes are %v", heights, passes)
		}
	}
}

// P4.16: a result is new memory.
func TestMemory(t *testing.T) {
	r := hill(2)
	for range 2 {
		l, _ := carve.Bounds(r)
		p, _ := carve.Passes(r, []int{8, 9, 8, 6})
		c, _ := carve.Carved(r, []api.CvPass{pass(0, 1)})
		s, _, _, _ := carve.Best(r, false)
		if l[0] != span(7, 8) || len(p) != 8 || p[0] != pass(0, 1) || !slices.Equal(c, []int{1, 1, 0, 0}) || !slices.Equal(s, []int{8, 9, 7, 6}) {
			t.Fatalf("later results changed: %v, %v, %v, %v", l, p, c, s)
		}
		l[0], p[0], c[0], s[0] = span(99, 99), pass(99, 99), 99, 99
		if !same(r, hill(2)) {
			t.Errorf("a result shares memory: %v", r)
		}
	}
}
