package step_test

import (
	"math"
	"slices"
	"testing"

	"hachure/api"
	"hachure/step"
)

// inside reports whether a span is not wider than another one.
func inside(in, out api.Span) bool { return in.Lo >= out.Lo && in.Hi <= out.Hi }

// thick returns what Thick does.
func thick(t *testing.T, s api.SpStack) []api.Span {
	t.Helper()
	l, e := step.Thick(s)
	if len(l) != len(s.Kinds) || e != api.OK {
		t.Fatalf("%v: Thick = %v, %d", s, l, e)
	}
	return l
}

// height returns what Level does.
func height(t *testing.T, s api.SpStack, counts []int) api.Span {
	t.Helper()
	r, e := step.Level(s, counts)
	if e != api.OK {
		t.Fatalf("%v: Level of %v = %v, %d", s, counts, r, e)
	}
	return r
}

// isGood reports whether a plan is good, as Bad says.
func isGood(t *testing.T, s api.SpStack, plan [][]int) bool {
	t.Helper()
	_, _, _, _, e := step.Bad(s, plan)
	if e != api.OK && e != api.ErrNone {
		t.Fatalf("%v: Bad of %v: %d", s, plan, e)
	}
	return e == api.ErrNone
}

// plan returns a plan that need not be good: bands are met as far as it goes, and then boards are added at random.
func (d *dice) plan(s api.SpStack) (plan [][]int) {
	counts := make([]int, len(s.Kinds))
	for range s.Bands {
		for i, k := range s.Kinds {
			counts[i] = min(counts[i]+d.roll(2), k.Have)
		}
		plan = append(plan, slices.Clone(counts))
	}
	return plan
}

// P3.7: any truth that was measured is one of those that are told.
func TestEveryTruth(t *testing.T) {
	d := dice(5)
	plans := 0
	for i := range 1000 {
		s, truth := d.tale(d.from(1, 3), d.roll(7))
		for j, r := range thick(t, s) {
			if truth[j] < r.Lo || truth[j] > r.Hi {
				t.Errorf("%d: %v: Thick of %d = %v, not %d", i, s, j, r, truth[j])
			}
		}
		if l, e := step.Wrong(s); len(l) > 0 || e != api.OK {
			t.Errorf("%d: %v: Wrong = %v, %d", i, s, l, e)
		}
		counts := d.counts(len(s.Kinds), 12)
		r := height(t, s, counts)
		for air := s.Air.Lo; air <= s.Air.Hi; air++ {
			if n := level(s, counts, truth, air); n < r.Lo || n > r.Hi {
				t.Errorf("%d: %v: Level of %v = %v, not %d", i, s, counts, r, n)
			}
		}
		p, e := step.Plan(s)
		if e != api.OK {
			continue
		}
		plans++
		for j, counts := range p {
			for air := s.Air.Lo; air <= s.Air.Hi; air++ {
				if n := level(s, counts, truth, air); n < s.Bands[j].Lo || n > s.Bands[j].Hi {
					t.Errorf("%d: %v: Plan = %v, but the level %d is %d", i, s, p, j, n)
				}
			}
		}
	}
	if plans < 300 {
		t.Errorf("%d plans: too few for a test", plans)
	}
}

// P3.8, P3.9: a plan with fewer boards than that of Plan misses a band; Bad shows the first truth and the least air.
func TestFewest(t *testing.T) {
	d := dice(6)
	missing := 0
	for i := range 2000 {
		s := d.mixed()
		list := truths(s)
		if len(list) == 0 {
			continue
		}
		least, e := step.Plan(s)
		if e == api.OK && !isGood(t, s, least) {
			t.Errorf("%d: %v: the plan %v is not good", i, s, least)
		}
		for range 5 {
			p := d.plan(s)
			m, is := missed(s, list, p)
			if !is {
				checkMiss(t, "a good plan", s, p, miss{}, api.ErrNone)
				if e != api.OK || boards(p) < boards(least) {
					t.Errorf("%d: %v: %v is good; Plan = %v, %d", i, s, p, least, e)
				}
				continue
			}
			missing++
			checkMiss(t, "a plan", s, p, m, api.OK)
		}
	}
	if missing < 1000 {
		t.Errorf("%d plans that miss a band: too few for a test", missing)
	}
}

// P3.10: with one more measure no thickness and no level is added, and a good plan is good.
func TestOneMore(t *testing.T) {
	d := dice(7)
	kept := 0
	for i := range 1000 {
		s, truth := d.tale(d.from(1, 3), d.roll(6))
		more := clone(s)
		more.Measures = append(more.Measures, d.measure(s, truth, d.from(-2, 2)))
		if len(truths(more)) == 0 {
			continue
		}
		kept++
		before, after := thick(t, s), thick(t, more)
		for j := range before {
			if !inside(after[j], before[j]) {
				t.Errorf("%d: %v: Thick of %d = %v; %v: %v", i, s, j, before[j], more, after[j])
			}
		}
		counts := d.counts(len(s.Kinds), 12)
		if a, b := height(t, s, counts), height(t, more, counts); !inside(b, a) {
			t.Errorf("%d: %v: Level of %v = %v; %v: %v", i, s, counts, a, more, b)
		}
		p, e := step.Plan(s)
		q, f := step.Plan(more)
		if e == api.OK && (!isGood(t, more, p) || f != api.OK || boards(q) > boards(p)) {
			t.Errorf("%d: %v: Plan = %v; %v: %v, %d", i, s, p, more, q, f)
		}
	}
	if kept < 500 {
		t.Errorf("%d stacks that agree with one more: too few for a test", kept)
	}
}

// P3.11: more boards on hand, or wider bands, never harm; and just as many as More says do.
func TestMoreBoards(t *testing.T) {
	d := dice(8)
	for i := range 700 {
		s, _ := d.tale(d.from(1, 3), d.roll(4))
		wider := clone(s)
		if d.roll(2) == 0 {
			k := &wider.Kinds[d.roll(len(s.Kinds))]
			k.Have = min(12, k.Have+d.from(1, 3))
		} else {
			for j := range wider.Bands {
				if j == 0 || wider.Bands[j].Lo-1 > wider.Bands[j-1].Hi {
					wider.Bands[j].Lo = max(1, wider.Bands[j].Lo-1)
				}
			}
			if n := len(wider.Bands); n > 0 {
				wider.Bands[n-1].Hi += 3
			}
		}
		p, e := step.Plan(s)
		q, f := step.Plan(wider)
		if e == api.OK && (!isGood(t, wider, p) || f != api.OK || boards(q) > boards(p)) {
			t.Errorf("%d: %v: Plan = %v; %v: %v, %d", i, s, p, wider, q, f)
		}
		more, _ := step.More(s)
		for j, n := range more {
			with := clone(s)
			with.Kinds[j].Have += n
			if n < 0 {
				with.Kinds[j].Have = 12
			}
			if _, e := step.Plan(with); e == api.OK != (n >= 0) {
				t.Errorf("%d: %v: More of %d = %d; with so many Plan returns %d", i, s, j, n, e)
			}
			with.Kinds[j].Have--
			if _, e := step.Plan(with); n > 0 && e != api.ErrDown {
				t.Errorf("%d: %v: More of %d = %d; with one less Plan returns %d", i, s, j, n, e)
			}
		}
	}
}

// P3.12: up to the band of Barrier some plan meets all bands, with it none does.
func TestBarrier(t *testing.T) {
	d := dice(9)
	later := 0
	for i := range 1500 {
		s := d.mixed()
		n, e := step.Barrier(s)
		if e != api.OK {
			continue
		}
		later += min(n, 1)
		with, without := clone(s), clone(s)
		with.Bands, without.Bands = s.Bands[:n+1], s.Bands[:n]
		if p, e := step.Plan(without); e != api.OK || !isGood(t, without, p) {
			t.Errorf("%d: %v: Barrier = %d; without it Plan = %v, %d", i, s, n, p, e)
		}
		if p, e := step.Plan(with); e != api.ErrDown {
			t.Errorf("%d: %v: Barrier = %d; with it Plan = %v, %d", i, s, n, p, e)
		}
		for range 5 {
			if band, _, _, _, e := step.Bad(s, d.plan(s)); e != api.OK || band > n {
				t.Errorf("%d: %v: Barrier = %d, and Bad of a plan = %d, %d", i, s, n, band, e)
			}
		}
	}
	if later < 100 {
		t.Errorf("%d barriers behind the first band: too few for a test", later)
	}
}

// P3.13: the level of counts together with others is within what both are together.
func TestTogether(t *testing.T) {
	d := dice(10)
	narrower := 0
	for i := range 1000 {
		s, _ := d.tale(d.from(1, 3), d.roll(5))
		a, b := d.counts(len(s.Kinds), 6), d.counts(len(s.Kinds), 6)
		both := slices.Clone(a)
		for j, n := range b {
			both[j] += n
		}
		r, q := height(t, s, a), height(t, s, b)
		sum, is := span(r.Lo+q.Lo, r.Hi+q.Hi), height(t, s, both)
		if !inside(is, sum) {
			t.Errorf("%d: %v: Level of %v = %v, of %v = %v, of both = %v", i, s, a, r, b, q, is)
		}
		if is != sum {
			narrower++
		}
	}
	if narrower < 50 {
		t.Errorf("%d counts that measures bind to others: too few for a test", narrower)
	}
}

// P3.14: without the measures of Wrong some truth agrees, without any fewer none does; it names no more than are wrong.
func TestWrongMeasures(t *testing.T) {
	d := dice(11)
	named := 0
	for i := range 1000 {
		s, truth := d.tale(d.from(1, 3), d.roll(4))
		bad := d.roll(3)
		for range bad {
			s.Measures = append(s.Measures, d.measure(s, truth, d.from(-20, 20)))
		}
		list, e := step.Wrong(s)
		if e != api.OK || len(list) > bad || !slices.IsSorted(list) {
			t.Fatalf("%d: %v: Wrong = %v, %d; %d are wrong", i, s, list, e, bad)
		}
		named += len(list)
		for mask := range 1 << len(s.Measures) {
			var out []int
			left := clone(s)
			left.Measures = nil
			for j, m := range s.Measures {
				if mask>>j&1 == 1 {
					out = append(out, j)
				} else {
					left.Measures = append(left.Measures, m)
				}
			}
			_, e := step.Thick(left)
			if len(out) < len(list) && e != api.ErrZero || slices.Equal(out, list) && e != api.OK {
				t.Errorf("%d: %v: Wrong = %v; without %v Thick returns %d", i, s, list, out, e)
			}
		}
	}
	if named < 200 {
		t.Errorf("%d wrong measures: too few for a test", named)
	}
}

// greatest is a stack as large as the limits allow, with many truths, and bands for many boards.
func greatest() api.SpStack {
	s := api.SpStack{Air: span(0, 100)}
	for i := range 3 {
		s.Kinds = append(s.Kinds, board(string(rune('a'+i)), 4980-7*i, 4992-7*i, 3-i, 12))
	}
	for range 6 {
		s.Measures = append(s.Measures, was(100000, 300000, 50, 12, 12, 12))
	}
	for i := range 5 {
		s.Bands = append(s.Bands, span(1+30000*i, 30000*(i+1)))
	}
	return s
}

// P1: the greatest stacks are gone through.
func TestGreatest(t *testing.T) {
	s := greatest()
	p, e := step.Plan(s)
	if e != api.OK || len(p) != 5 || !isGood(t, s, p) {
		t.Fatalf("Plan = %v, %d", p, e)
	}
	if n, e := step.Barrier(s); n != 0 || e != api.ErrNone {
		t.Errorf("Barrier = %d, %d", n, e)
	}
	if l, e := step.More(s); !slices.Equal(l, []int{0, 0, 0}) || e != api.OK {
		t.Errorf("More = %v, %d", l, e)
	}
	// 12 of each are never so high.
	s.Bands[4] = span(399999, 400000)
	if n, e := step.Barrier(s); n != 4 || e != api.OK {
		t.Errorf("Barrier = %d, %d", n, e)
	}
	if l, e := step.More(s); !slices.Equal(l, []int{-1, -1, -1}) || e != api.OK {
		t.Errorf("More = %v, %d", l, e)
	}
}

// P1, P3.15: any arguments are accepted.
func TestAnyArguments(t *testing.T) {
	d := dice(12)
	odd := []int{math.MinInt, -1, 0, 0, 1, 1, 2, 3, 5, 6, 7, 12, 13, 50, 51, 100, 101, 300, 5000, 5001, 400000, 400001, math.MaxInt}
	pick := func() int { return odd[d.roll(len(odd))] }
	numbers := func(most int) (list []int) {
		for range d.roll(most + 1) {
			list = append(list, pick())
		}
		return list
	}
	names := []string{"", "a", "b", "c", "-", "\xff\xfe", "A"}
	for range 5000 {
		s := relief()
		if d.roll(2) == 0 {
			s.Kinds = nil
			for range d.roll(5) {
				s.Kinds = append(s.Kinds, board(names[d.roll(len(names))], pick(), pick(), pick(), pick()))
			}
		}
		if d.roll(2) == 0 {
			s.Air = span(pick(), pick())
		}
		for range d.roll(7) {
			s.Measures = append(s.Measures, was(pick(), pick(), pick(), numbers(4)...))
		}
		for range d.roll(4) {
			s.Bands = append(s.Bands, span(pick(), pick()))
		}
		_, _, e := step.Check(s)
		checkErrors(t, "odd numbers", s, e)
	}
	for range 2000 {
		s := relief()
		step.Level(s, numbers(3))
		step.Bad(s, [][]int{{1, 1}, numbers(3), numbers(3)})
	}
}

// P3.15: no argument is modified.
func TestArguments(t *testing.T) {
	for _, s := range []api.SpStack{relief(), contrary(), blocks(2, 3, span(9, 9), span(20, 20))} {
		// The measures and the bands have room behind them, where nothing may be written.
		measures, bands := append(slices.Clone(s.Measures), was(7, 7, 7, 7)), append(slices.Clone(s.Bands), span(7, 7))
		s.Measures, s.Bands = measures[:len(s.Measures)], bands[:len(s.Bands)]
		before, counts, plan := clone(s), []int{2, 1}, [][]int{{1, 1}, {2, 2}, {2, 3}}[:len(s.Bands)]
		step.Check(s)
		step.Thick(s)
		step.Level(s, counts)
		step.Wrong(s)
		step.Plan(s)
		step.Bad(s, plan)
		step.Barrier(s)
		step.More(s)
		if !same(s, before) || !slices.Equal(counts, []int{2, 1}) || !samePlan(plan, [][]int{{1, 1}, {2, 2}, {2, 3}}[:len(s.Bands)]) {
			t.Errorf("%v is %v; %v, %v", before, s, counts, plan)
		}
		if m := measures[len(measures)-1]; m.Air != 7 || bands[len(bands)-1] != span(7, 7) {
			t.Errorf("behind measures and bands: %v, %v", m, bands[len(bands)-1])
		}
	}
}

// P3.15: a result is new memory.
func TestMemory(t *testing.T) {
	s := relief()
	plan := [][]int{{1, 1}, {2, 2}, {5, 2}}
	for range 2 {
		l, _ := step.Thick(s)
		p, _ := step.Plan(s)
		m, _ := step.More(s)
		w, _ := step.Wrong(contrary())
		_, x, _, _, _ := step.Bad(s, plan)
		if l[0] != span(300, 304) || !samePlan(p, [][]int{{1, 1}, {2, 2}, {4, 2}}) || m[0] != 0 || w[0] != 0 || x[0] != 300 {
			t.Fatalf("later results changed: %v, %v, %v, %v, %v", l, p, m, w, x)
		}
		l[0].Lo, m[0], w[0], x[0] = 99, 99, 99, 99
		p[0][0], p[0] = 99, append(p[0], 99)
		if !samePlan(p[1:], [][]int{{2, 2}, {4, 2}}) || !same(s, relief()) {
			t.Errorf("results share memory: %v, %v", p, s)
		}
	}
}
