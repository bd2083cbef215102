package colour_test

import (
	"math"
	"slices"
	"testing"

	"hachure/api"
	"hachure/colour"
)

const (
	big   = math.MaxInt
	small = math.MinInt
)

// fault is a change of the sample, and what Check says of it.
type fault struct {
	what     string
	change   func(m *api.ClMap)
	part, at int
	e        api.Errno
}

// border, height, side and like return a change of one border, height, side or pair of Like.
func border(i, lo, hi int) func(m *api.ClMap) {
	return func(m *api.ClMap) { m.Borders[i] = span(lo, hi) }
}

func height(i, lo, hi int) func(m *api.ClMap) {
	return func(m *api.ClMap) { m.Heights[i] = span(lo, hi) }
}

func side(i, a, b int) func(m *api.ClMap) {
	return func(m *api.ClMap) { m.Sides[i] = pair(a, b) }
}

func like(l ...int) func(m *api.ClMap) {
	return func(m *api.ClMap) { m.Like = pairs(l...) }
}

// step and inks return a change of Step or Inks.
func step(n int) func(m *api.ClMap) {
	return func(m *api.ClMap) { m.Step = n }
}

func inks(n int) func(m *api.ClMap) {
	return func(m *api.ClMap) { m.Inks = n }
}

// borders, heights, sides and likes return changes to so many, all borders and heights from 0 to 0, and all pairs wrong.
func borders(many int) func(m *api.ClMap) {
	return func(m *api.ClMap) { m.Borders = make([]api.Span, many) }
}

func heights(many int) func(m *api.ClMap) {
	return func(m *api.ClMap) { m.Heights = make([]api.Span, many) }
}

func sides(many int) func(m *api.ClMap) {
	return func(m *api.ClMap) { m.Sides = make([]api.ClPair, many) }
}

func likes(many int) func(m *api.ClMap) {
	return func(m *api.ClMap) { m.Like = make([]api.ClPair, many) }
}

// all returns all changes, one after the other.
func all(changes ...func(m *api.ClMap)) func(m *api.ClMap) {
	return func(m *api.ClMap) {
		for _, change := range changes {
			change(m)
		}
	}
}

// mapFaults are those of how many things there are, and of Step and Inks.
func mapFaults() []fault {
	greatest := func(m *api.ClMap) { *m = greatestMap() }
	return []fault{
		{"the sample", all(), 0, 0, api.OK},
		{"the greatest map", greatest, 0, 0, api.OK},
		{"the least map", all(borders(1), heights(1), sides(0), likes(0), step(1), inks(1)), 0, 0, api.OK},
		{"no borders", borders(0), 1, 0, api.ErrLong},
		{"nil borders", func(m *api.ClMap) { m.Borders = nil }, 1, 0, api.ErrLong},
		{"six borders", borders(6), 1, 0, api.ErrLong},
		{"five borders", borders(5), 0, 0, api.OK},
		{"no heights", heights(0), 1, 0, api.ErrLong},
		{"nil heights", func(m *api.ClMap) { m.Heights = nil }, 1, 0, api.ErrLong},
		{"nine heights", heights(9), 1, 0, api.ErrLong},
		{"eight heights", heights(8), 0, 0, api.OK},
		{"eleven sides, all wrong", sides(11), 1, 0, api.ErrLong},
		{"ten sides, all wrong", sides(10), 4, 0, api.ErrArg},
		{"ten sides", func(m *api.ClMap) { m.Sides = slices.Repeat(pairs(0, 1), 10) }, 0, 0, api.OK},
		{"no sides", sides(0), 0, 0, api.OK},
		{"nine pairs of Like, all wrong", likes(9), 1, 0, api.ErrLong},
		{"eight pairs of Like, all wrong", likes(8), 5, 0, api.ErrArg},
		{"eight pairs of Like", func(m *api.ClMap) { m.Like = slices.Repeat(pairs(0, 1), 8) }, 0, 0, api.OK},
		{"no pairs of Like", likes(0), 0, 0, api.OK},
		{"a Step of 0", step(0), 1, 0, api.ErrRange},
		{"a Step below 0", step(-1), 1, 0, api.ErrRange},
		{"a Step too great", step(1001), 1, 0, api.ErrRange},
		{"the least int as Step", step(small), 1, 0, api.ErrRange},
		{"the greatest int as Step", step(big), 1, 0, api.ErrRange},
		{"the least Step", step(1), 0, 0, api.OK},
		{"the greatest Step", step(1000), 0, 0, api.OK},
		{"no Inks", inks(0), 1, 0, api.ErrRange},
		{"Inks below 0", inks(-1), 1, 0, api.ErrRange},
		{"too many Inks", inks(7), 1, 0, api.ErrRange},
		{"the least int as Inks", inks(small), 1, 0, api.ErrRange},
		{"the greatest int as Inks", inks(big), 1, 0, api.ErrRange},
		{"six Inks", inks(6), 0, 0, api.OK},
		{"one ink", all(inks(1), likes(0)), 0, 0, api.OK},
		{"no borders, and a Step of 0", all(step(0), borders(0)), 1, 0, api.ErrLong},
		{"nine heights, and no Inks", all(inks(0), heights(9)), 1, 0, api.ErrLong},
		{"eleven sides, and a Step too great", all(step(1001), sides(11)), 1, 0, api.ErrLong},
		{"nine pairs of Like, and no Inks", all(inks(0), likes(9)), 1, 0, api.ErrLong},
		{"a Step of 0, and all else wrong", all(step(0), border(0, 2, 1), height(0, 2, 1), side(0, 1, 1), like(1, 1)), 1, 0, api.ErrRange},
		{"no Inks, and all else wrong", all(inks(0), border(0, -1, 1), height(0, -1, 1), side(0, -1, 1), like(1, 9)), 1, 0, api.ErrRange},
		{"nine pairs of Like, and all else wrong", all(likes(9), border(0, -1, 1), height(0, -1, 1), side(0, -1, 1)), 1, 0, api.ErrLong},
	}
}

// borderFaults are those of borders.
func borderFaults() []fault {
	return []fault{
		{"a border below 0", border(0, -1, 5), 2, 0, api.ErrRange},
		{"a border whose Hi is below 0", border(0, 0, -1), 2, 0, api.ErrRange},
		{"a border too great", border(1, 9000, 9001), 2, 1, api.ErrRange},
		{"a border whose Lo is too great", border(1, 9001, 9000), 2, 1, api.ErrRange},
		{"a border too great, and too wide", border(1, 0, 9001), 2, 1, api.ErrRange},
		{"a border of any int", border(1, small, big), 2, 1, api.ErrRange},
		{"a border of any int, turned", border(1, big, small), 2, 1, api.ErrRange},
		{"a border with Lo above Hi", border(0, 101, 100), 2, 0, api.ErrArg},
		{"a border far turned", border(1, 9000, 0), 2, 1, api.ErrArg},
		{"a border too wide", border(0, 100, 121), 2, 0, api.ErrArg},
		{"the widest border", border(0, 100, 120), 0, 0, api.OK},
		{"a border of all that is", border(0, 0, 9000), 2, 0, api.ErrArg},
		{"the least border", border(0, 0, 0), 0, 0, api.OK},
		{"the greatest border", border(1, 9000, 9000), 0, 0, api.OK},
		{"borders that leave no legend", all(border(0, 200, 205), border(1, 100, 104)), 0, 0, api.OK},
		{"the first border decides", all(border(0, 2, 1), border(1, -1, 1)), 2, 0, api.ErrArg},
		{"borders come before heights", all(border(1, 2, 1), height(0, -1, 1)), 2, 1, api.ErrArg},
	}
}

// heightFaults are those of heights.
func heightFaults() []fault {
	return []fault{
		{"a height below 0", height(0, -1, 5), 3, 0, api.ErrRange},
		{"a height whose Hi is below 0", height(1, 0, -1), 3, 1, api.ErrRange},
		{"a height too great", height(4, 9000, 9001), 3, 4, api.ErrRange},
		{"a height whose Lo is too great", height(4, 9001, 9000), 3, 4, api.ErrRange},
		{"a height of any int", height(2, small, big), 3, 2, api.ErrRange},
		{"a height of any int, turned", height(2, big, small), 3, 2, api.ErrRange},
		{"a height with Lo above Hi", height(3, 101, 100), 3, 3, api.ErrArg},
		{"a height far turned", height(3, 9000, 0), 3, 3, api.ErrArg},
		{"the widest height", height(3, 0, 9000), 0, 0, api.OK},
		{"the least height", height(0, 0, 0), 0, 0, api.OK},
		{"the greatest height", height(4, 9000, 9000), 0, 0, api.OK},
		{"the first height decides", all(height(1, 2, 1), height(2, -1, 1)), 3, 1, api.ErrArg},
		{"heights come before sides", all(height(4, 2, 1), side(0, -1, 1)), 3, 4, api.ErrArg},
	}
}

// pairFaults are those of sides, and of pairs of Like.
func pairFaults() []fault {
	return []fault{
		{"a side whose A is below 0", side(0, -1, 1), 4, 0, api.ErrNone},
		{"a side whose B is below 0", side(1, 1, -1), 4, 1, api.ErrNone},
		{"a side whose A is too great", side(2, 5, 1), 4, 2, api.ErrNone},
		{"a side whose B is too great", side(3, 1, 5), 4, 3, api.ErrNone},
		{"a side of any int", side(0, small, big), 4, 0, api.ErrNone},
		{"a side of no point twice", side(0, 5, 5), 4, 0, api.ErrNone},
		{"a side of a point twice", side(1, 4, 4), 4, 1, api.ErrArg},
		{"a side that is turned", side(1, 4, 0), 0, 0, api.OK},
		{"a side twice", side(1, 0, 1), 0, 0, api.OK},
		{"the first side decides", all(side(1, 1, 1), side(2, 9, 1)), 4, 1, api.ErrArg},
		{"sides come before pairs of Like", all(side(3, 1, 1), like(9, 9)), 4, 3, api.ErrArg},
		{"a pair whose A is below 0", like(-1, 1), 5, 0, api.ErrNone},
		{"a pair whose B is below 0", like(0, 1, 1, -1), 5, 1, api.ErrNone},
		{"a pair whose A is too great", like(3, 1), 5, 0, api.ErrNone},
		{"a pair whose B is too great", like(0, 1, 0, 1, 1, 3), 5, 2, api.ErrNone},
		{"a pair of any int", like(small, big), 5, 0, api.ErrNone},
		{"a pair of no ink twice", like(3, 3), 5, 0, api.ErrNone},
		{"a pair of an ink twice", like(0, 1, 2, 2), 5, 1, api.ErrArg},
		{"a pair that is turned", like(2, 0), 0, 0, api.OK},
		{"a pair twice", like(0, 2, 2, 0, 0, 2), 0, 0, api.OK},
		{"a pair of a point that is no ink", all(inks(2), like(0, 2)), 5, 0, api.ErrNone},
		{"a pair of an ink that is no point", all(heights(1), sides(0), inks(6), like(4, 5)), 0, 0, api.OK},
		{"the first pair decides", like(0, 1, 1, 1, 9, 1), 5, 1, api.ErrArg},
	}
}

// P9.1: each part, the order of errors, and that all other functions return the error first.
func TestCheck(t *testing.T) {
	for _, f := range slices.Concat(mapFaults(), borderFaults(), heightFaults(), pairFaults()) {
		m := clone(sample())
		f.change(&m)
		part, at, e := colour.Check(m)
		if part != f.part || at != f.at || e != f.e {
			t.Errorf("%s: Check = %d, %d, %d, not %d, %d, %d", f.what, part, at, e, f.part, f.at, f.e)
		}
		if f.e == api.OK {
			checkLegend(t, f.what, m, make([]int, 9), 0, api.ErrLong)
			continue
		}
		for _, legend := range [][]int{nil, first(), {9, 8}, {-1, small, big}, make([]int, 9)} {
			checkLegend(t, f.what, m, legend, 0, f.e)
			checkErrors(t, f.what, m, legend, f.e)
		}
		checkBest(t, f.what, m, nil, 0, f.e)
	}
}

// checkErrors checks that each function with a legend but CheckLegend returns an error before its own ones, and nothing
// else with it.
func checkErrors(t *testing.T, what string, m api.ClMap, legend []int, e api.Errno) {
	t.Helper()
	checkBands(t, what, m, legend, nil, e)
	checkUnsure(t, what, m, legend, nil, e)
	checkMeets(t, what, m, legend, nil, e)
	checkPaint(t, what, m, legend, nil, 0, e)
	for _, inks := range [][]int{nil, {0, 0, 0}, {0, 1, 2}, {0, 9, -1}, make([]int, 9)} {
		checkMistaken(t, what, m, legend, inks, nil, e)
	}
}

func checkLegend(t *testing.T, what string, m api.ClMap, legend []int, at int, e api.Errno) {
	t.Helper()
	if n, f := colour.CheckLegend(m, legend); n != at || f != e {
		t.Errorf("%s: CheckLegend of %v, %v = %d, %d, not %d, %d", what, m, legend, n, f, at, e)
	}
}

func checkBands(t *testing.T, what string, m api.ClMap, legend []int, want []api.Span, e api.Errno) {
	t.Helper()
	if got, f := colour.Bands(m, legend); !slices.Equal(got, want) || f != e {
		t.Errorf("%s: Bands of %v, %v = %v, %d, not %v, %d", what, m, legend, got, f, want, e)
	}
}

func checkUnsure(t *testing.T, what string, m api.ClMap, legend, want []int, e api.Errno) {
	t.Helper()
	if got, f := colour.Unsure(m, legend); !slices.Equal(got, want) || f != e {
		t.Errorf("%s: Unsure of %v, %v = %v, %d, not %v, %d", what, m, legend, got, f, want, e)
	}
}

func checkMeets(t *testing.T, what string, m api.ClMap, legend []int, want []api.ClPair, e api.Errno) {
	t.Helper()
	if got, f := colour.Meets(m, legend); !slices.Equal(got, want) || f != e {
		t.Errorf("%s: Meets of %v, %v = %v, %d, not %v, %d", what, m, legend, got, f, want, e)
	}
}

func checkPaint(t *testing.T, what string, m api.ClMap, legend, want []int, many int, e api.Errno) {
	t.Helper()
	if got, n, f := colour.Paint(m, legend); !slices.Equal(got, want) || n != many || f != e {
		t.Errorf("%s: Paint of %v, %v = %v, %d, %d, not %v, %d, %d", what, m, legend, got, n, f, want, many, e)
	}
}

func checkMistaken(t *testing.T, what string, m api.ClMap, legend, inks, want []int, e api.Errno) {
	t.Helper()
	if got, f := colour.Mistaken(m, legend, inks); !slices.Equal(got, want) || f != e {
		t.Errorf("%s: Mistaken of %v, %v, %v = %v, %d, not %v, %d", what, m, legend, inks, got, f, want, e)
	}
}

func checkBest(t *testing.T, what string, m api.ClMap, want []int, unsure int, e api.Errno) {
	t.Helper()
	if got, n, f := colour.Best(m); !slices.Equal(got, want) || n != unsure || f != e {
		t.Errorf("%s: Best of %v = %v, %d, %d, not %v, %d, %d", what, m, got, n, f, want, unsure, e)
	}
}

// The examples of the chapter.
func TestExamples(t *testing.T) {
	m, late := sample(), []int{104, 203}
	checkBands(t, "M", m, first(), spans(0, 0, 0, 1, 1, 1, 1, 2, 2, 2), api.OK)
	checkUnsure(t, "M", m, first(), []int{1, 3}, api.OK)
	checkUnsure(t, "M", m, late, nil, api.OK)
	checkMeets(t, "M", m, first(), pairs(0, 1, 1, 2), api.OK)
	checkMeets(t, "M", m, late, pairs(0, 1, 1, 2), api.OK)
	checkPaint(t, "M", m, first(), []int{0, 2, 0}, 2, api.OK)
	checkMistaken(t, "M", m, first(), []int{0, 1, 2}, []int{0, 1}, api.OK)
	checkMistaken(t, "M", m, late, []int{0, 1, 2}, []int{1}, api.OK)
	checkBest(t, "M", m, late, 0, api.OK)
	checkUnsure(t, "M with the border 105", m, []int{105, 203}, []int{2}, api.OK)
	m.Inks = 2
	checkPaint(t, "M with 2 inks", m, first(), nil, 0, api.ErrDown)
}

// P9.2: each error, the first number with one, and that all other functions return it first.
func TestCheckLegend(t *testing.T) {
	m := sample()
	five := clone(m)
	five.Borders, five.Step = slices.Repeat(spans(100, 120), 5), 5
	for _, o := range []struct {
		what   string
		m      api.ClMap
		legend []int
		at     int
		e      api.Errno
	}{
		{"the least one", m, []int{100, 200}, 0, api.OK},
		{"the greatest one", m, []int{105, 204}, 0, api.OK},
		{"nothing", m, nil, 0, api.ErrLong},
		{"too few numbers", m, []int{100}, 0, api.ErrLong},
		{"too many numbers, all wrong", m, []int{-1, -1, -1}, 0, api.ErrLong},
		{"as many numbers as bands", m, []int{100, 200, 204}, 0, api.ErrLong},
		{"a number too low", m, []int{99, 200}, 0, api.ErrRange},
		{"a number too high", m, []int{106, 200}, 0, api.ErrRange},
		{"the last number too low", m, []int{100, 199}, 1, api.ErrRange},
		{"the last number too high", m, []int{100, 205}, 1, api.ErrRange},
		{"the least int", m, []int{small, 200}, 0, api.ErrRange},
		{"the greatest int", m, []int{big, 200}, 0, api.ErrRange},
		{"the least int at last", m, []int{100, small}, 1, api.ErrRange},
		{"the greatest int at last", m, []int{100, big}, 1, api.ErrRange},
		{"just Step above", five, []int{100, 105, 110, 115, 120}, 0, api.OK},
		{"the last one less than Step above", five, []int{100, 105, 110, 115, 119}, 4, api.ErrArg},
		{"the middle one less than Step above", five, []int{100, 106, 110, 115, 120}, 2, api.ErrArg},
		{"the same number twice", five, []int{100, 105, 105, 110, 115}, 2, api.ErrArg},
		{"a lower number", five, []int{100, 105, 110, 100, 120}, 3, api.ErrArg},
		{"not from its span, and less than Step above", five, []int{100, 105, 99, 115, 120}, 2, api.ErrRange},
		{"too high, and less than Step above", five, []int{100, 105, 110, 120, 121}, 4, api.ErrRange},
		{"the first one decides", five, []int{100, 104, 99, 115, 121}, 1, api.ErrArg},
		{"the first one decides again", five, []int{99, 100, 100, 100, 100}, 0, api.ErrRange},
		{"above the one before it, not those before that", five, []int{110, 100, 105, 110, 115}, 1, api.ErrArg},
	} {
		checkLegend(t, o.what, o.m, o.legend, o.at, o.e)
		if o.e != api.OK {
			checkErrors(t, o.what, o.m, o.legend, o.e)
		}
	}
}

// P9.3: by hand.
func TestBandsByHand(t *testing.T) {
	m := api.ClMap{Borders: spans(10, 10, 20, 20, 21, 21), Step: 1, Inks: 1}
	for _, o := range []struct {
		what    string
		heights []api.Span
		sides   []api.ClPair
		bands   []api.Span
		unsure  []int
		meets   []api.ClPair
	}{
		{"a height just below a number", spans(9, 9), nil, spans(0, 0), nil, nil},
		{"a height that is a number", spans(10, 10), nil, spans(1, 1), nil, nil},
		{"heights of a band", spans(10, 19), nil, spans(1, 1), nil, nil},
		{"a height more above", spans(10, 20), nil, spans(1, 2), []int{0}, nil},
		{"a height more below", spans(9, 19), nil, spans(0, 1), []int{0}, nil},
		{"a band of one height", spans(20, 20), nil, spans(2, 2), nil, nil},
		{"all heights", spans(0, 9000), nil, spans(0, 3), []int{0}, nil},
		{"the highest band", spans(21, 9000), nil, spans(3, 3), nil, nil},
		{"no side", spans(0, 9, 10, 15), nil, spans(0, 0, 1, 1), nil, nil},
		{"two bands", spans(0, 9, 10, 15), pairs(0, 1), spans(0, 0, 1, 1), nil, pairs(0, 1)},
		{"two bands, turned", spans(0, 9, 10, 15), pairs(1, 0), spans(0, 0, 1, 1), nil, pairs(0, 1)},
		{"a band with itself", spans(0, 3, 4, 9), pairs(0, 1), spans(0, 0, 0, 0), nil, nil},
		{"bands that are far from each other", spans(0, 9, 30, 30), pairs(1, 0), spans(0, 0, 3, 3), nil, pairs(0, 3)},
		{"two points that can be in the same bands", spans(9, 10, 9, 10), pairs(0, 1), spans(0, 1, 0, 1), []int{0, 1}, pairs(0, 1)},
		{"an unsure point does not meet itself", spans(9, 20, 10, 10), pairs(0, 1), spans(0, 2, 1, 1), []int{0}, pairs(0, 1, 1, 2)},
		{"by A, then by B", spans(0, 9, 10, 11, 20, 20, 21, 21), pairs(2, 3, 1, 3, 3, 0, 1, 2, 0, 1), spans(0, 0, 1, 1, 2, 2, 3, 3), nil, pairs(0, 1, 0, 3, 1, 2, 1, 3, 2, 3)},
		{"a side twice", spans(0, 9, 10, 11), pairs(0, 1, 1, 0, 0, 1), spans(0, 0, 1, 1), nil, pairs(0, 1)},
		{"all bands", spans(0, 9000, 0, 9000), pairs(0, 1), spans(0, 3, 0, 3), []int{0, 1}, pairs(0, 1, 0, 2, 0, 3, 1, 2, 1, 3, 2, 3)},
	} {
		m.Heights, m.Sides = o.heights, o.sides
		legend := []int{10, 20, 21}
		checkBands(t, o.what, m, legend, o.bands, api.OK)
		checkUnsure(t, o.what, m, legend, o.unsure, api.OK)
		checkMeets(t, o.what, m, legend, o.meets, api.OK)
	}
}

// P9.3: what all truths of small maps say.
func TestBandsUnsureMeets(t *testing.T) {
	d := dice(1)
	unsure, wide, meets := 0, 0, [16]int{}
	for range 2000 {
		m, legend := d.small()
		c := found(m, legend)
		var want []api.Span
		for _, bands := range c.bands {
			s := span(9, -1)
			for b := range bands {
				s = span(min(s.Lo, b), max(s.Hi, b))
			}
			if len(bands) != s.Hi-s.Lo+1 {
				t.Errorf("%v, %v: not all bands from %d to %d", m, legend, s.Lo, s.Hi)
			}
			if len(bands) > 2 {
				wide++
			}
			want = append(want, s)
		}
		checkBands(t, "a small map", m, legend, want, api.OK)
		checkUnsure(t, "a small map", m, legend, c.unsure(), api.OK)
		checkMeets(t, "a small map", m, legend, c.meets(), api.OK)
		unsure += len(c.unsure())
		meets[len(c.meets())]++
	}
	if unsure < 1000 || wide < 200 || slices.Min(meets[:7]) < 20 {
		t.Errorf("%d points unsure, %d with more than two bands, %v by pairs that meet: too few for a test", unsure, wide, meets)
	}
}

// known is a map of which all is known: with so many bands, 0 to 9 high, 10 to 19, and so on; a point in each band, and
// one more at last in the highest one; and sides.
func known(bands, inks int, like []api.ClPair, sides ...int) (m api.ClMap, legend []int) {
	m = api.ClMap{Step: 10, Inks: inks, Like: like, Sides: pairs(sides...)}
	for b := range bands {
		m.Heights = append(m.Heights, span(10*b+3, 10*b+3))
		if b > 0 {
			m.Borders, legend = append(m.Borders, span(10*b, 10*b)), append(legend, 10*b)
		}
	}
	m.Heights = append(m.Heights, span(10*bands-1, 10*bands-1))
	return m, legend
}

// P9.4: paintings by hand.
func TestPaintByHand(t *testing.T) {
	three, four := []int{0, 1, 1, 2, 2, 0}, []int{0, 1, 0, 2, 0, 3, 1, 2, 1, 3, 2, 3}
	for _, o := range []struct {
		what  string
		bands int
		inks  int
		like  []api.ClPair
		sides []int
		want  []int
		many  int
		e     api.Errno
	}{
		{"no sides, one ink", 2, 1, nil, nil, []int{0, 0}, 1, api.OK},
		{"no sides, six inks", 6, 6, nil, nil, []int{0, 0, 0, 0, 0, 0}, 1, api.OK},
		{"a side in one band", 2, 1, nil, []int{1, 2}, []int{0, 0}, 1, api.OK},
		{"two bands that meet, one ink", 2, 1, nil, []int{0, 1}, nil, 0, api.ErrDown},
		{"two bands that meet, two inks", 2, 2, nil, []int{0, 1}, []int{0, 1}, 2, api.OK},
		{"two bands that meet, two inks alike", 2, 2, pairs(0, 1), []int{0, 1}, nil, 0, api.ErrDown},
		{"two bands that meet, two inks alike, turned", 2, 2, pairs(1, 0), []int{1, 0}, nil, 0, api.ErrDown},
		{"two bands that meet, a further ink", 2, 3, pairs(1, 0), []int{1, 0}, []int{0, 2}, 2, api.OK},
		{"the first ink is alike to all others", 2, 3, pairs(0, 1, 2, 0), []int{0, 1}, []int{1, 2}, 2, api.OK},
		{"alike is not told on", 2, 4, pairs(0, 1, 1, 2, 2, 3), []int{0, 1}, []int{0, 2}, 2, api.OK},
		{"three bands one after the other", 3, 6, nil, []int{0, 1, 1, 2}, []int{0, 1, 0}, 2, api.OK},
		{"the bands at the ends meet", 3, 6, nil, []int{0, 2}, []int{0, 0, 1}, 2, api.OK},
		{"three bands, two inks", 3, 2, nil, three, nil, 0, api.ErrDown},
		{"three bands, three inks", 3, 3, nil, three, []int{0, 1, 2}, 3, api.OK},
		{"three bands, two of four inks alike", 3, 4, pairs(1, 2), three, []int{0, 1, 3}, 3, api.OK},
		{"three bands, a ring of inks", 3, 4, pairs(0, 1, 1, 2, 2, 3, 3, 0), three, nil, 0, api.ErrDown},
		{"three bands, a ring of six inks", 3, 6, pairs(0, 1, 1, 2, 2, 3, 3, 4, 4, 5, 5, 0), three, []int{0, 2, 4}, 3, api.OK},
		{"three bands, the last inks", 3, 6, pairs(0, 1, 0, 2, 0, 3, 0, 4, 1, 2, 1, 3, 0, 5), three, []int{1, 4, 5}, 3, api.OK},
		{"four bands, three inks", 4, 3, nil, four, nil, 0, api.ErrDown},
		{"four bands, four inks", 4, 4, nil, four, []int{0, 1, 2, 3}, 4, api.OK},
		{"a ring of five bands", 5, 6, nil, []int{0, 1, 1, 2, 2, 3, 3, 4, 4, 0}, []int{0, 1, 0, 1, 2}, 3, api.OK},
		{"bands that meet no others take the first ink", 6, 6, nil, []int{1, 3}, []int{0, 0, 0, 1, 0, 0}, 2, api.OK},
		{"bands that meet no others take an ink that is there", 4, 3, pairs(0, 1, 0, 2), []int{1, 2}, []int{1, 1, 2, 1}, 2, api.OK},
		{"fewer inks come before lower ones", 4, 4, pairs(0, 2, 0, 3), []int{0, 1, 1, 2, 1, 3, 2, 3}, []int{1, 2, 1, 3}, 3, api.OK},
	} {
		m, legend := known(o.bands, o.inks, o.like, o.sides...)
		checkPaint(t, o.what, m, legend, o.want, o.many, o.e)
	}
}

// P9.4: the first one of the paintings with the fewest inks, against all inks.
func TestPaint(t *testing.T) {
	d := dice(2)
	down, later, counts := 0, 0, [7]int{}
	for range 1200 {
		m, legend := d.small()
		want := found(m, legend).paint(m)
		if want == nil {
			checkPaint(t, "no painting", m, legend, nil, 0, api.ErrDown)
			down++
			continue
		}
		checkPaint(t, "a small map", m, legend, want, different(want), api.OK)
		counts[different(want)]++
		if want[0] > 0 {
			later++
		}
	}
	if down < 100 || later < 10 || slices.Min(counts[1:4]) < 30 {
		t.Errorf("%d without a painting, %d that begin with a later ink, %v by inks: too few for a test", down, later, counts)
	}
}

// P9.4: what inks are not accepted, in the order of errors.
func TestMistakenErrors(t *testing.T) {
	m := sample()
	for _, o := range []struct {
		what string
		inks []int
		e    api.Errno
	}{
		{"no inks", nil, api.ErrLong},
		{"too few inks", []int{0, 1}, api.ErrLong},
		{"too many inks", []int{0, 1, 2, 0}, api.ErrLong},
		{"too few inks, none of them one", []int{-1, 9}, api.ErrLong},
		{"too many inks, none of them one", []int{9, 9, 9, 9}, api.ErrLong},
		{"an ink below 0", []int{-1, 1, 2}, api.ErrNone},
		{"an ink too great", []int{0, 3, 2}, api.ErrNone},
		{"the last ink too great", []int{0, 1, 3}, api.ErrNone},
		{"the least int", []int{0, small, 2}, api.ErrNone},
		{"the greatest int", []int{0, 1, big}, api.ErrNone},
		{"the last ink for all", []int{2, 2, 2}, api.OK},
	} {
		var want []int
		if o.e == api.OK {
			want = []int{0, 1, 2, 3}
		}
		checkMistaken(t, o.what, m, first(), o.inks, want, o.e)
	}
	m.Sides = nil
	checkMistaken(t, "no sides", m, first(), []int{0, 0, 0}, nil, api.OK)
	checkMistaken(t, "no sides, and an ink too great", m, first(), []int{0, 0, 3}, nil, api.ErrNone)
}

// P9.4: mistaken sides by hand.
func TestMistakenByHand(t *testing.T) {
	m := api.ClMap{Borders: spans(10, 10, 20, 20), Step: 1, Inks: 4, Like: pairs(1, 0, 2, 3),
		Heights: spans(0, 9, 5, 10, 15, 16, 19, 20, 25, 30),
		Sides:   pairs(0, 1, 1, 0, 0, 2, 2, 3, 3, 4, 4, 0, 1, 3)}
	for _, o := range []struct {
		what       string
		inks, want []int
	}{
		{"the bands at the ends alone are alike", []int{0, 2, 1}, []int{5, 6}},
		{"the same ink for all", []int{2, 2, 2}, []int{0, 1, 2, 3, 4, 5, 6}},
		{"all are alike", []int{0, 1, 0}, []int{0, 1, 2, 3, 4, 5, 6}},
		{"the two lower bands are alike", []int{0, 1, 2}, []int{0, 1, 2, 6}},
		{"the two lower bands are the same", []int{1, 1, 3}, []int{0, 1, 2, 6}},
		{"the two higher bands are alike", []int{1, 3, 2}, []int{3, 4, 6}},
		{"the bands at the ends are alike", []int{3, 0, 2}, []int{5, 6}},
		{"the bands at the ends are the same", []int{3, 0, 3}, []int{5, 6}},
	} {
		checkMistaken(t, o.what, m, []int{10, 20}, o.inks, o.want, api.OK)
	}
	m.Inks = 5
	checkMistaken(t, "an ink that is alike to none", m, []int{10, 20}, []int{0, 4, 2}, nil, api.OK)
}

// P9.4: what all truths of small maps say.
func TestMistaken(t *testing.T) {
	d := dice(3)
	counts := [11]int{}
	for range 2000 {
		m, legend := d.small()
		c, inks := found(m, legend), d.inks(m)
		want := c.mistaken(m, inks)
		checkMistaken(t, "a small map", m, legend, inks, want, api.OK)
		counts[len(want)]++
	}
	if slices.Min(counts[:9]) < 20 {
		t.Errorf("%v by sides that are mistaken: too few for a test", counts)
	}
}

// P9.5: by hand.
func TestBestByHand(t *testing.T) {
	for _, o := range []struct {
		what    string
		borders []api.Span
		step    int
		heights []api.Span
		want    []int
		unsure  int
		e       api.Errno
	}{
		{"the first one of all", spans(10, 20), 1, spans(0, 5), []int{10}, 0, api.OK},
		{"no heights below", spans(10, 20), 1, spans(9, 9), []int{10}, 0, api.OK},
		{"a point is past", spans(10, 20), 1, spans(9, 14), []int{15}, 0, api.OK},
		{"a point is not reached", spans(10, 20), 1, spans(10, 14), []int{10}, 0, api.OK},
		{"between points", spans(10, 20), 1, spans(5, 13, 14, 30), []int{14}, 0, api.OK},
		{"the last one of all", spans(10, 20), 1, spans(5, 19), []int{20}, 0, api.OK},
		{"a point is always unsure", spans(10, 20), 1, spans(5, 20), []int{10}, 1, api.OK},
		{"fewer points", spans(10, 20), 1, spans(0, 99, 0, 12, 0, 13, 16, 99), []int{14}, 1, api.OK},
		{"a point is unsure by two borders", spans(10, 12, 14, 16), 2, spans(9, 18), []int{10, 14}, 1, api.OK},
		{"both borders in one point", spans(10, 20, 12, 22), 2, spans(0, 50, 10, 11, 16, 40), []int{10, 12}, 1, api.OK},
		{"all points are unsure", spans(10, 10, 15, 20), 3, spans(5, 17, 14, 22), []int{10, 15}, 2, api.OK},
		{"a further point is avoided", spans(10, 10, 15, 20), 3, spans(5, 17, 17, 22), []int{10, 15}, 1, api.OK},
		{"a later point costs more than the first one", spans(10, 10, 15, 20), 3, spans(5, 17, 14, 18), []int{10, 19}, 1, api.OK},
		{"just Step apart", spans(10, 20, 15, 25), 15, spans(0, 0), []int{10, 25}, 0, api.OK},
		{"too near", spans(10, 20, 15, 24), 15, spans(0, 0), nil, 0, api.ErrDown},
		{"in the wrong order", spans(20, 30, 10, 19), 1, spans(0, 0), nil, 0, api.ErrDown},
		{"the same border three times", spans(10, 12, 10, 12, 10, 12), 1, spans(0, 99), []int{10, 11, 12}, 1, api.OK},
		{"the same border four times", spans(10, 12, 10, 12, 10, 12, 10, 12), 1, spans(0, 99), nil, 0, api.ErrDown},
		{"the first border gives way to the second one", spans(10, 20, 22, 22), 8, spans(0, 14, 3, 13), []int{14, 22}, 1, api.OK},
		{"the second border gives way to the first one", spans(10, 20, 18, 26), 8, spans(0, 14, 18, 22), []int{15, 23}, 0, api.OK},
		{"borders from 0 on", spans(0, 20), 1000, spans(0, 0, 0, 5), []int{0}, 0, api.OK},
		{"borders from 0 on, later", spans(0, 0, 1000, 1010), 1000, spans(0, 0, 0, 1004), []int{0, 1005}, 0, api.OK},
		{"the greatest border", spans(8990, 9000), 1, spans(8000, 9000, 8000, 8999), []int{9000}, 1, api.OK},
	} {
		m := api.ClMap{Borders: o.borders, Step: o.step, Heights: o.heights, Inks: 1}
		checkBest(t, o.what, m, o.want, o.unsure, o.e)
	}
}

// P9.5: the first one of the legends that leave the fewest points unsure, against all legends.
func TestBest(t *testing.T) {
	d := dice(4)
	down, other, several, counts := 0, 0, 0, [9]int{}
	for range 5000 {
		m := d.narrow()
		want, unsure, ties := best(m)
		if want == nil {
			checkBest(t, "no legend", m, nil, 0, api.ErrDown)
			down++
			continue
		}
		checkBest(t, "a map", m, want, unsure, api.OK)
		counts[unsure]++
		if ties > 1 {
			several++
		}
		for l := range legends(m) {
			if !slices.Equal(l, want) {
				other++
			}
			break
		}
	}
	if down < 200 || other < 200 || several < 200 || slices.Min(counts[:6]) < 20 {
		t.Errorf("%d without a legend, %d not the first one, %d of several, %v by points: too few for a test", down, other, several, counts)
	}
}
