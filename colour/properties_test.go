package colour_test

import (
	"math"
	"slices"
	"testing"

	"hachure/api"
	"hachure/colour"
)

// asked returns what a function returned, but stops the test if that is an error.
func asked[T any](t *testing.T, result T, e api.Errno) T {
	t.Helper()
	if e != api.OK {
		t.Fatalf("an error: %d", e)
	}
	return result
}

// bandsOf, unsureBy, meetsOf and mistakenOf return what the functions do that cannot fail.
func bandsOf(t *testing.T, m api.ClMap, legend []int) []api.Span {
	t.Helper()
	bands, e := colour.Bands(m, legend)
	return asked(t, bands, e)
}

func unsureBy(t *testing.T, m api.ClMap, legend []int) []int {
	t.Helper()
	points, e := colour.Unsure(m, legend)
	return asked(t, points, e)
}

func meetsOf(t *testing.T, m api.ClMap, legend []int) []api.ClPair {
	t.Helper()
	pairs, e := colour.Meets(m, legend)
	return asked(t, pairs, e)
}

func mistakenOf(t *testing.T, m api.ClMap, legend, inks []int) []int {
	t.Helper()
	sides, e := colour.Mistaken(m, legend, inks)
	return asked(t, sides, e)
}

// paintOf returns a painting and how many inks it has, or none and more than there can be.
func paintOf(t *testing.T, m api.ClMap, legend []int) (inks []int, many int) {
	t.Helper()
	inks, many, e := colour.Paint(m, legend)
	if e == api.ErrDown {
		return nil, 99
	}
	return asked(t, inks, e), many
}

// bestOf returns a legend and how many points it leaves unsure, or none and more than there can be.
func bestOf(t *testing.T, m api.ClMap) (legend []int, unsure int) {
	t.Helper()
	legend, unsure, e := colour.Best(m)
	if e == api.ErrDown {
		return nil, 99
	}
	return asked(t, legend, e), unsure
}

// containsAll reports whether a list has all things of another one.
func containsAll[T comparable](list, other []T) bool {
	return !slices.ContainsFunc(other, func(thing T) bool { return !slices.Contains(list, thing) })
}

// P9.6: in any truth each point is in one of its bands, and a point that is sure in the same one in all.
func TestEveryTruth(t *testing.T) {
	d := dice(5)
	sure := 0
	for range 2000 {
		m, legend := d.drawn()
		bands, unsure := bandsOf(t, m, legend), unsureBy(t, m, legend)
		before := d.truth(m)
		for range 20 {
			truth := d.truth(m)
			for i, height := range truth {
				b := bandOf(legend, height)
				if !has(bands[i], b) {
					t.Errorf("%v, %v: the point %d is in %d, not in one of %v", m, legend, i, b, bands[i])
				}
				if slices.Contains(unsure, i) {
					continue
				}
				sure++
				if b != bandOf(legend, before[i]) {
					t.Errorf("%v, %v: the point %d is sure, but in different bands", m, legend, i)
				}
			}
			before = truth
		}
	}
	if sure < 20000 {
		t.Errorf("%d sure points: too few for a test", sure)
	}
}

// P9.7: each band is that of some height, and each height has just one band of them.
func TestReached(t *testing.T) {
	d := dice(6)
	reached := 0
	for range 500 {
		m, legend := d.small()
		for i, s := range bandsOf(t, m, legend) {
			met := map[int]bool{}
			for height := m.Heights[i].Lo; height <= m.Heights[i].Hi; height++ {
				one := clone(m)
				one.Heights[i] = span(height, height)
				b := bandsOf(t, one, legend)[i]
				if b.Lo != b.Hi || !has(s, b.Lo) || slices.Contains(unsureBy(t, one, legend), i) {
					t.Errorf("%v, %v: the point %d with %d is in %v, not in one of %v", m, legend, i, height, b, s)
				}
				met[b.Lo] = true
			}
			if len(met) != s.Hi-s.Lo+1 {
				t.Errorf("%v, %v: the point %d is in %v, not in each one of %v", m, legend, i, met, s)
			}
			reached += len(met)
		}
	}
	if reached < 1000 {
		t.Errorf("%d bands: too few for a test", reached)
	}
}

// P9.8: in any truth points beside each other have inks that are alike just if they are in the same band.
func TestNotExchanged(t *testing.T) {
	d := dice(7)
	same, other := 0, 0
	for range 2000 {
		m, legend := d.drawn()
		inks, many := paintOf(t, m, legend)
		if many == 99 {
			continue
		}
		for range 10 {
			truth := d.truth(m)
			for _, s := range m.Sides {
				a, b := bandOf(legend, truth[s.A]), bandOf(legend, truth[s.B])
				if alike(m, inks[a], inks[b]) != (a == b) {
					t.Errorf("%v, %v, %v: %v of %v has the bands %d and %d", m, legend, inks, s, truth, a, b)
				}
				if a == b {
					same++
				} else {
					other++
				}
			}
		}
	}
	if same < 3000 || other < 3000 {
		t.Errorf("%d sides in one band, %d in two: too few for a test", same, other)
	}
}

// P9.9: no painting has fewer inks; without a painting any inks leave a side that is mistaken.
func TestNoFewer(t *testing.T) {
	d := dice(8)
	is, down := 0, 0
	for range 400 {
		m, legend := d.drawn()
		m.Inks = min(m.Inks, 4)
		m.Like = d.pairs(d.roll(4), m.Inks)
		got, many := paintOf(t, m, legend)
		if many == 99 {
			down++
		} else if is++; different(got) != many || len(mistakenOf(t, m, legend, got)) > 0 {
			t.Errorf("%v, %v: %v is no painting with %d inks", m, legend, got, many)
		}
		for inks := range allInks(m) {
			if different(inks) < many && len(mistakenOf(t, m, legend, inks)) == 0 {
				t.Errorf("%v, %v: Paint = %v, %d, but there is %v", m, legend, got, many, inks)
			}
		}
	}
	if is < 100 || down < 50 {
		t.Errorf("%d with a painting, %d without: too few for a test", is, down)
	}
}

// P9.10: sides that are mistaken have points in different bands with inks that are alike in some truth, others in none; and
// there are some just if two bands that meet have such inks.
func TestNamed(t *testing.T) {
	d := dice(9)
	named, others := 0, 0
	for range 1500 {
		m, legend := d.small()
		inks := d.inks(m)
		sides := mistakenOf(t, m, legend, inks)
		is := map[int]bool{}
		for truth := range truths(m) {
			for i, s := range m.Sides {
				a, b := bandOf(legend, truth[s.A]), bandOf(legend, truth[s.B])
				if a != b && alike(m, inks[a], inks[b]) {
					is[i] = true
				}
			}
		}
		for i := range m.Sides {
			if is[i] != slices.Contains(sides, i) {
				t.Errorf("%v, %v: Mistaken of %v = %v; in some truth %d: %v", m, legend, inks, sides, i, is[i])
			}
		}
		meet := slices.ContainsFunc(meetsOf(t, m, legend), func(p api.ClPair) bool { return alike(m, inks[p.A], inks[p.B]) })
		if meet != (len(sides) > 0) {
			t.Errorf("%v, %v: Mistaken of %v = %v; bands that meet are alike: %v", m, legend, inks, sides, meet)
		}
		named += len(sides)
		others += len(m.Sides) - len(sides)
	}
	if named < 1000 || others < 1000 {
		t.Errorf("%d sides that are mistaken, %d that are not: too few for a test", named, others)
	}
}

// P9.11: the best legend leaves as many points unsure as it says, and no legend leaves fewer.
func TestBestLegend(t *testing.T) {
	d := dice(10)
	many, worse := 0, 0
	for range 600 {
		m := d.narrow()
		best, unsure := bestOf(t, m)
		for legend := range legends(m) {
			n := len(unsureBy(t, m, legend))
			if n < unsure {
				t.Errorf("%v: Best = %v, %d, but %v leaves %d", m, best, unsure, legend, n)
				break
			}
			if n > unsure {
				worse++
			}
		}
		if best == nil {
			continue
		}
		many++
		if n := len(unsureBy(t, m, best)); n != unsure {
			t.Errorf("%v: Best = %v, %d, but it leaves %d", m, best, unsure, n)
		}
	}
	if many < 100 || worse < 1000 {
		t.Errorf("%d maps, %d legends that are worse: too few for a test", many, worse)
	}
}

// P9.11: any legend of any map leaves no fewer points unsure.
func TestAnyLegend(t *testing.T) {
	d := dice(11)
	worse := 0
	for range 4000 {
		m, legend := d.drawn()
		best, unsure := bestOf(t, m)
		if best == nil || len(unsureBy(t, m, best)) != unsure {
			t.Fatalf("%v: Best = %v, %d", m, best, unsure)
		}
		n := len(unsureBy(t, m, legend))
		if n < unsure {
			t.Errorf("%v: Best = %v, %d, but %v leaves %d", m, best, unsure, legend, n)
		}
		if n > unsure {
			worse++
		}
	}
	if worse < 300 {
		t.Errorf("%d legends that are worse: too few for a test", worse)
	}
}

// P9.12: heights that are known more narrowly.
func TestNarrower(t *testing.T) {
	d := dice(12)
	fewerBands, fewerMeet, fewerInks := 0, 0, 0
	for range 3000 {
		m, legend := d.drawn()
		less := clone(m)
		for i, s := range m.Heights {
			if d.roll(2) == 0 {
				less.Heights[i] = d.within(s.Lo, s.Hi, s.Hi-s.Lo)
			}
		}
		before, after := bandsOf(t, m, legend), bandsOf(t, less, legend)
		for i := range before {
			if !inside(before[i], after[i]) {
				t.Errorf("%v, %v: the point %d has the bands %v, with %v: %v", m, legend, i, before[i], less.Heights[i], after[i])
			}
			if before[i] != after[i] {
				fewerBands++
			}
		}
		meets, fewer := meetsOf(t, m, legend), meetsOf(t, less, legend)
		if !containsAll(meets, fewer) {
			t.Errorf("%v, %v: Meets = %v, with %v: %v", m, legend, meets, less.Heights, fewer)
		}
		if len(fewer) < len(meets) {
			fewerMeet++
		}
		_, many := paintOf(t, m, legend)
		_, now := paintOf(t, less, legend)
		if now > many {
			t.Errorf("%v, %v: Paint needs %d, with %v: %d", m, legend, many, less.Heights, now)
		}
		if now < many {
			fewerInks++
		}
	}
	if fewerBands < 500 || fewerMeet < 300 || fewerInks < 100 {
		t.Errorf("%d with fewer bands, %d of which fewer meet, %d with fewer inks: too few for a test", fewerBands, fewerMeet, fewerInks)
	}
}

// P9.12: wider borders, and a lesser Step.
func TestWiderBorders(t *testing.T) {
	d := dice(13)
	fewer := [2]int{}
	for range 3000 {
		m := d.any()
		_, unsure := bestOf(t, m)
		wider, nearer := clone(m), clone(m)
		for i, s := range m.Borders {
			low := max(s.Lo-d.roll(4), 0, s.Hi-20)
			wider.Borders[i] = span(low, min(s.Hi+d.roll(4), 9000, low+20))
		}
		nearer.Step = d.from(1, m.Step)
		for i, other := range []api.ClMap{wider, nearer} {
			_, now := bestOf(t, other)
			if now > unsure {
				t.Errorf("%v: Best leaves %d; %v: %d", m, unsure, other, now)
			}
			if now < unsure {
				fewer[i]++
			}
		}
	}
	if slices.Min(fewer[:]) < 100 {
		t.Errorf("%v with fewer: too few for a test", fewer)
	}
}

// moved returns a map whose borders and heights are moved, and a legend that is.
func moved(m api.ClMap, legend []int, by int) (api.ClMap, []int) {
	m = clone(m)
	for _, l := range [][]api.Span{m.Borders, m.Heights} {
		for i, s := range l {
			l[i] = span(s.Lo+by, s.Hi+by)
		}
	}
	legend = slices.Clone(legend)
	for i := range legend {
		legend[i] += by
	}
	return m, legend
}

// checkAll checks that all functions with a legend return the same for a map and another one, each with its legend.
func checkAll(t *testing.T, what string, m, other api.ClMap, legend, otherLegend, inks []int) {
	t.Helper()
	bands, e := colour.Bands(m, legend)
	checkBands(t, what, other, otherLegend, bands, e)
	unsure, e := colour.Unsure(m, legend)
	checkUnsure(t, what, other, otherLegend, unsure, e)
	meets, e := colour.Meets(m, legend)
	checkMeets(t, what, other, otherLegend, meets, e)
	painting, many, e := colour.Paint(m, legend)
	checkPaint(t, what, other, otherLegend, painting, many, e)
	sides, e := colour.Mistaken(m, legend, inks)
	checkMistaken(t, what, other, otherLegend, inks, sides, e)
}

// P9.13: all is raised, or lowered, by the same number.
func TestRaised(t *testing.T) {
	d := dice(14)
	for range 1500 {
		m, legend := d.drawn()
		ends := span(9000, 0)
		for _, s := range slices.Concat(m.Borders, m.Heights) {
			ends = span(min(ends.Lo, s.Lo), max(ends.Hi, s.Hi))
		}
		by := d.from(-ends.Lo, 9000-ends.Hi)
		other, raised := moved(m, legend, by)
		checkLegend(t, "raised", other, raised, 0, api.OK)
		checkAll(t, "raised", m, other, legend, raised, d.inks(m))
		best, unsure := bestOf(t, m)
		_, best = moved(m, best, by)
		checkBest(t, "raised", other, best, unsure, api.OK)
	}
}

// P9.14: pairs of Like in another order, turned round, or told twice; one more pair; one more ink.
func TestInks(t *testing.T) {
	d := dice(15)
	more, mistaken, fewer := 0, 0, 0
	for range 3000 {
		m, legend := d.drawn()
		m.Like = m.Like[:min(len(m.Like), d.roll(5))]
		inks := d.inks(m)
		told := clone(m)
		told.Like = shuffled(&d, slices.Concat(m.Like, m.Like)[:min(2*len(m.Like), 8)])
		for i, p := range told.Like {
			if d.roll(2) == 0 {
				told.Like[i] = pair(p.B, p.A)
			}
		}
		checkAll(t, "pairs told otherwise", m, told, legend, legend, inks)
		best, unsure := bestOf(t, m)
		checkBest(t, "pairs told otherwise", told, best, unsure, api.OK)
		_, many := paintOf(t, m, legend)
		sides := mistakenOf(t, m, legend, inks)
		further := clone(m)
		further.Like = append(further.Like, d.pairs(1, m.Inks)...)
		_, now := paintOf(t, further, legend)
		still := mistakenOf(t, further, legend, inks)
		if now < many || !containsAll(still, sides) {
			t.Errorf("%v, %v: Paint needs %d, Mistaken of %v = %v; with %v: %d, %v", m, legend, many, inks, sides, further.Like, now, still)
		}
		if now > many {
			more++
		}
		if len(still) > len(sides) {
			mistaken++
		}
		if m.Inks == 6 {
			continue
		}
		further = clone(m)
		further.Inks++
		_, now = paintOf(t, further, legend)
		if now > many {
			t.Errorf("%v, %v: Paint needs %d, with one more ink: %d", m, legend, many, now)
		}
		if now < many {
			fewer++
		}
	}
	if more < 50 || mistaken < 200 || fewer < 100 {
		t.Errorf("%d need more, %d with more sides mistaken, %d need fewer: too few for a test", more, mistaken, fewer)
	}
}

// turned returns a map that is turned upside down, and a legend that is.
func turned(m api.ClMap, legend []int) (api.ClMap, []int) {
	m, legend = clone(m), slices.Clone(legend)
	for i, s := range m.Heights {
		m.Heights[i] = span(9000-s.Hi, 9000-s.Lo)
	}
	for i, s := range m.Borders {
		m.Borders[i] = span(9001-s.Hi, 9001-s.Lo)
	}
	for i := range legend {
		legend[i] = 9001 - legend[i]
	}
	slices.Reverse(m.Borders)
	slices.Reverse(legend)
	return m, legend
}

// P9.15: all is turned upside down.
func TestUpsideDown(t *testing.T) {
	d := dice(16)
	wide := 0
	for range 2000 {
		m, legend := d.drawn()
		if slices.ContainsFunc(m.Borders, func(s api.Span) bool { return s.Lo == 0 }) {
			continue
		}
		other, down := turned(m, legend)
		var want []api.Span
		for _, s := range bandsOf(t, m, legend) {
			want = append(want, span(len(legend)-s.Hi, len(legend)-s.Lo))
			if s.Lo != s.Hi {
				wide++
			}
		}
		checkBands(t, "upside down", other, down, want, api.OK)
		best, unsure := bestOf(t, m)
		if l, n := bestOf(t, other); n != unsure {
			t.Errorf("%v: Best = %v, %d; upside down: %v, %d", m, best, unsure, l, n)
		}
	}
	if wide < 1000 {
		t.Errorf("%d points unsure: too few for a test", wide)
	}
}

// greatestMap is a map whose numbers and lists are all as great as can be.
func greatestMap() api.ClMap {
	m := api.ClMap{Step: 1000, Inks: 6, Sides: slices.Repeat(pairs(0, 1, 1, 2, 2, 3, 6, 7, 7, 5), 2)}
	for i := range 5 {
		m.Borders = append(m.Borders, span(4980+1000*i, 5000+1000*i))
	}
	m.Heights = slices.Repeat(spans(0, 9000), 8)
	m.Like = pairs(0, 1, 1, 2, 2, 3, 3, 4, 4, 5, 5, 0, 0, 2, 1, 3)
	return m
}

// P1: the greatest cases are gone through.
func TestTheGreatest(t *testing.T) {
	m := greatestMap()
	best := []int{4980, 5980, 6980, 7980, 8980}
	var meets []api.ClPair
	for a := range 6 {
		for b := a + 1; b < 6; b++ {
			meets = append(meets, pair(a, b))
		}
	}
	checkBest(t, "the greatest", m, best, 8, api.OK)
	checkBands(t, "the greatest", m, best, slices.Repeat(spans(0, 5), 8), api.OK)
	checkUnsure(t, "the greatest", m, best, []int{0, 1, 2, 3, 4, 5, 6, 7}, api.OK)
	checkMeets(t, "the greatest", m, best, meets, api.OK)
	checkPaint(t, "the greatest", m, best, nil, 0, api.ErrDown)
	checkMistaken(t, "the greatest", m, best, []int{0, 3, 5, 2, 4, 1}, []int{0, 1, 2, 3, 4, 5, 6, 7, 8, 9}, api.OK)
	m.Like = nil
	checkPaint(t, "no two inks alike", m, best, []int{0, 1, 2, 3, 4, 5}, 6, api.OK)
	checkMistaken(t, "no two inks alike", m, best, []int{5, 4, 3, 2, 1, 0}, nil, api.OK)
	m.Inks = 5
	checkPaint(t, "one ink less", m, best, nil, 0, api.ErrDown)
	m.Sides = nil
	checkPaint(t, "no sides", m, best, []int{0, 0, 0, 0, 0, 0}, 1, api.OK)
	m.Step, m.Borders = 1, slices.Repeat(spans(4980, 5000), 5)
	checkBest(t, "many legends", m, []int{4980, 4981, 4982, 4983, 4984}, 8, api.OK)
	m.Heights = slices.Repeat(spans(4979, 4995), 8)
	checkBest(t, "the last of many legends", m, []int{4996, 4997, 4998, 4999, 5000}, 0, api.OK)
}

// P1, P9.16: any arguments are accepted.
func TestAnyArguments(t *testing.T) {
	d := dice(17)
	odd := []int{small, small + 1, -1000, -2, -1, 0, 0, 1, 1, 2, 3, 4, 5, 6, 7, 20, 50, 99, 100, 103, 105, 200, 204, 1000, 1001, 9000, 9001, big - 1000, big - 1, big}
	pick := func() int { return odd[d.roll(len(odd))] }
	any := func() api.Span { return span(pick(), pick()) }
	reached := 0
	for range 8000 {
		m, legend, inks := clone(sample()), first(), []int{0, 2, 0}
		for range d.roll(3) {
			switch d.roll(9) {
			case 0:
				m.Borders[d.roll(len(m.Borders))] = any()
			case 1:
				m.Heights[d.roll(len(m.Heights))] = any()
			case 2:
				m.Sides[d.roll(len(m.Sides))] = pair(pick(), pick())
			case 3:
				m.Like = append(m.Like, pair(pick(), pick()))
			case 4:
				m.Step = pick()
			case 5:
				m.Inks = pick()
			case 6:
				m.Borders, legend, inks = append(m.Borders, any()), append(legend, pick()), append(inks, pick())
			case 7:
				legend[d.roll(len(legend))] = pick()
			default:
				inks[d.roll(len(inks))] = pick()
			}
		}
		if callAll(m, legend, inks) {
			reached++
		}
		if _, _, e := colour.Check(m); e != api.OK {
			checkErrors(t, "odd numbers", m, legend, e)
			checkBest(t, "odd numbers", m, nil, 0, e)
		} else if _, e := colour.CheckLegend(m, legend); e != api.OK {
			checkErrors(t, "odd numbers", m, legend, e)
		}
	}
	if reached < 1000 || reached > 7000 {
		t.Errorf("%d with a painting: too few for a test, or too many", reached)
	}
}

// callAll calls all functions, and reports whether there is a painting.
func callAll(m api.ClMap, legend, inks []int) bool {
	colour.Check(m)
	colour.CheckLegend(m, legend)
	colour.Bands(m, legend)
	colour.Unsure(m, legend)
	colour.Meets(m, legend)
	colour.Mistaken(m, legend, inks)
	colour.Best(m)
	_, _, e := colour.Paint(m, legend)
	return e == api.OK
}

// P9.16: no argument is modified.
func TestArguments(t *testing.T) {
	d := dice(18)
	for range 500 {
		// Each list has room behind it, where nothing may be written.
		m, legend := d.drawn()
		m.Borders, m.Heights = append(m.Borders, span(7, 7)), append(m.Heights, span(7, 7))
		m.Sides, m.Like = append(m.Sides, pair(7, 7)), append(m.Like, pair(7, 7))
		before := clone(m)
		less := m
		less.Borders, less.Heights = m.Borders[:len(m.Borders)-1], m.Heights[:len(m.Heights)-1]
		less.Sides, less.Like = m.Sides[:len(m.Sides)-1], m.Like[:len(m.Like)-1]
		inks := append(d.inks(less), 7)
		legend = append(legend, math.MaxInt)
		beforeLegend, beforeInks := slices.Clone(legend), slices.Clone(inks)
		callAll(less, legend[:len(legend)-1], inks[:len(inks)-1])
		if !equal(m, before) || !slices.Equal(legend, beforeLegend) || !slices.Equal(inks, beforeInks) {
			t.Errorf("%v, %v, %v are %v, %v, %v", before, beforeLegend, beforeInks, m, legend, inks)
		}
	}
}

// P9.16: a result is new memory.
func TestMemory(t *testing.T) {
	m, legend, inks := sample(), first(), []int{0, 1, 2}
	for range 2 {
		bands, unsure, meets := bandsOf(t, m, legend), unsureBy(t, m, legend), meetsOf(t, m, legend)
		painting, _ := paintOf(t, m, legend)
		sides := mistakenOf(t, m, legend, inks)
		best, _ := bestOf(t, m)
		if !slices.Equal(bands, spans(0, 0, 0, 1, 1, 1, 1, 2, 2, 2)) || !slices.Equal(meets, pairs(0, 1, 1, 2)) {
			t.Fatalf("later results changed: %v, %v", bands, meets)
		}
		for i, list := range [][]int{unsure, painting, sides, best} {
			if want := [][]int{{1, 3}, {0, 2, 0}, {0, 1}, {104, 203}}[i]; !slices.Equal(list, want) {
				t.Fatalf("later results changed: %v", list)
			}
			list[0], list[1] = 99, 99
		}
		bands[0], bands[1], meets[0], meets[1] = span(99, 99), span(99, 99), pair(99, 99), pair(99, 99)
		if !equal(m, sample()) || !slices.Equal(legend, first()) || !slices.Equal(inks, []int{0, 1, 2}) {
			t.Errorf("a result shares memory: %v, %v, %v", m, legend, inks)
		}
	}
}
