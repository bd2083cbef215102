package river_test

import (
	"math"
	"slices"
	"strings"
	"testing"

	"hachure/api"
	"hachure/river"
)

// fault is a change of the sample, and what Check says of it.
type fault struct {
	what     string
	change   func(r []api.RvPoint) []api.RvPoint
	part, at int
	e        api.Errno
}

// at returns a change of one point.
func at(i int, change func(p *api.RvPoint)) func(r []api.RvPoint) []api.RvPoint {
	return func(r []api.RvPoint) []api.RvPoint {
		change(&r[i])
		return r
	}
}

// numberFaults are those of how many points there are, and of numbers.
func numberFaults() []fault {
	big, small := math.MaxInt, math.MinInt
	return []fault{
		{"the sample", func(r []api.RvPoint) []api.RvPoint { return r }, 0, 0, api.OK},
		{"no points", func(r []api.RvPoint) []api.RvPoint { return nil }, 1, 0, api.ErrLong},
		{"no points, but a list", func(r []api.RvPoint) []api.RvPoint { return r[:0] }, 1, 0, api.ErrLong},
		{"ten points", func(r []api.RvPoint) []api.RvPoint { return stream(0, make([]int, 18)...) }, 1, 0, api.ErrLong},
		{"ten points, all wrong", func(r []api.RvPoint) []api.RvPoint { return make([]api.RvPoint, 10) }, 1, 0, api.ErrLong},
		{"nine points", func(r []api.RvPoint) []api.RvPoint { return stream(0, make([]int, 16)...) }, 0, 0, api.OK},
		{"the mouth alone", func(r []api.RvPoint) []api.RvPoint { return r[:1] }, 0, 0, api.OK},
		{"a Least below 0", at(3, func(p *api.RvPoint) { p.Least = -1 }), 2, 3, api.ErrRange},
		{"a Least too great, and no Down", at(3, func(p *api.RvPoint) { p.Least, p.Down = 501, 9 }), 2, 3, api.ErrRange},
		{"the least int as Least", at(1, func(p *api.RvPoint) { p.Least = small }), 2, 1, api.ErrRange},
		{"the greatest int as Least", at(1, func(p *api.RvPoint) { p.Least = big }), 2, 1, api.ErrRange},
		{"the greatest Least", at(1, func(p *api.RvPoint) { p.Least = 500 }), 0, 0, api.OK},
		{"a Height below 0", at(0, func(p *api.RvPoint) { p.Height = -1 }), 2, 0, api.ErrRange},
		{"a Height too great, down to itself", at(4, func(p *api.RvPoint) { p.Height, p.Down = 9001, 4 }), 2, 4, api.ErrRange},
		{"the least int as Height", at(4, func(p *api.RvPoint) { p.Height = small }), 2, 4, api.ErrRange},
		{"the greatest int as Height", at(4, func(p *api.RvPoint) { p.Height = big }), 2, 4, api.ErrRange},
		{"the greatest Height", at(4, func(p *api.RvPoint) { p.Height = 9000 }), 0, 0, api.OK},
		{"the least Height", at(4, func(p *api.RvPoint) { p.Height = 0 }), 0, 0, api.OK},
		{"a Least of the mouth", at(0, func(p *api.RvPoint) { p.Least = 1 }), 2, 0, api.ErrArg},
		{"the greatest Least of the mouth", at(0, func(p *api.RvPoint) { p.Least = 500 }), 2, 0, api.ErrArg},
		{"a Least of the mouth below 0", at(0, func(p *api.RvPoint) { p.Least = -1 }), 2, 0, api.ErrRange},
		{"a Least of the mouth too great", at(0, func(p *api.RvPoint) { p.Least = 501 }), 2, 0, api.ErrRange},
		{"a Least of a second mouth", at(3, func(p *api.RvPoint) { p.Down = -1 }), 2, 3, api.ErrArg},
	}
}

// nameFaults are those of names.
func nameFaults() []fault {
	twice := func(r []api.RvPoint) []api.RvPoint {
		r[1].Name, r[3].Name, r[4].Name = "x", "x", "x"
		return r
	}
	return []fault{
		{"no name, and no Least", at(2, func(p *api.RvPoint) { p.Name, p.Least = "", -1 }), 2, 2, api.ErrForm},
		{"a name with a capital", at(2, func(p *api.RvPoint) { p.Name = "Mill" }), 2, 2, api.ErrForm},
		{"a name with a digit ahead", at(2, func(p *api.RvPoint) { p.Name = "1mill" }), 2, 2, api.ErrForm},
		{"a name with a line feed", at(2, func(p *api.RvPoint) { p.Name = "mill\n" }), 2, 2, api.ErrForm},
		{"a long name", at(0, func(p *api.RvPoint) { p.Name = strings.Repeat("m", 17) }), 2, 0, api.ErrForm},
		{"the longest name", at(0, func(p *api.RvPoint) { p.Name = strings.Repeat("m", 16) }), 0, 0, api.OK},
		{"a name with a digit and a hyphen", at(0, func(p *api.RvPoint) { p.Name = "s-2" }), 0, 0, api.OK},
		{"a name twice, and no Least", at(4, func(p *api.RvPoint) { p.Name, p.Least = "sea", -1 }), 2, 4, api.ErrTwice},
		{"a name twice, beside it", at(1, func(p *api.RvPoint) { p.Name = "sea" }), 2, 1, api.ErrTwice},
		{"a name thrice", twice, 2, 3, api.ErrTwice},
	}
}

// wayFaults are those of where water goes.
func wayFaults() []fault {
	downs := func(list ...int) func(r []api.RvPoint) []api.RvPoint {
		return func(r []api.RvPoint) []api.RvPoint {
			for i := range r {
				r[i].Down, r[i].Least = list[i], 0
			}
			return r
		}
	}
	return []fault{
		{"a Down below 0", at(1, func(p *api.RvPoint) { p.Down = -2 }), 2, 1, api.ErrNone},
		{"a Down too great", at(1, func(p *api.RvPoint) { p.Down = 5 }), 2, 1, api.ErrNone},
		{"the least int as Down", at(1, func(p *api.RvPoint) { p.Down = math.MinInt }), 2, 1, api.ErrNone},
		{"the greatest int as Down", at(4, func(p *api.RvPoint) { p.Down = math.MaxInt }), 2, 4, api.ErrNone},
		{"down to itself", at(4, func(p *api.RvPoint) { p.Down = 4 }), 2, 4, api.ErrArg},
		{"the first point decides", downs(-1, 1, 9, 0, 0), 2, 1, api.ErrArg},
		{"the first point decides again", downs(-1, 9, 2, 0, 0), 2, 1, api.ErrNone},
		{"points before mouths", downs(1, 2, 3, 0, 5), 2, 4, api.ErrNone},
		{"no mouth", downs(1, 2, 3, 4, 0), 3, 0, api.ErrZero},
		{"no mouth, and two rounds", downs(1, 0, 3, 4, 2), 3, 0, api.ErrZero},
		{"two mouths", downs(0-1, 0, 1, -1, 3), 3, 3, api.ErrArg},
		{"three mouths", downs(1, -1, -1, 2, -1), 3, 2, api.ErrArg},
		{"two mouths, and a round", downs(1, 0, -1, 2, -1), 3, 4, api.ErrArg},
		{"a round", downs(-1, 0, 4, 2, 3), 3, 2, api.ErrDown},
		{"a round, and a point above it", downs(-1, 4, 0, 4, 3), 3, 1, api.ErrDown},
		{"a round behind a point above it", downs(2, 0, 1, -1, 0), 3, 0, api.ErrDown},
		{"two rounds", downs(2, 4, 0, -1, 1), 3, 0, api.ErrDown},
		{"the last point is the mouth", downs(1, 2, 3, 4, -1), 0, 0, api.OK},
		{"all beside each other", downs(2, 2, -1, 2, 2), 0, 0, api.OK},
	}
}

// P6.1: parts, indices, errors, and which one comes first.
func TestCheck(t *testing.T) {
	for _, f := range slices.Concat(numberFaults(), nameFaults(), wayFaults()) {
		r := f.change(valley(38))
		if part, at, e := river.Check(r); part != f.part || at != f.at || e != f.e {
			t.Errorf("%s: Check = %d, %d, %d", f.what, part, at, e)
		}
		checkErrors(t, f.what, r, f.e)
	}
}

// checkErrors checks that each function returns the error of Check first, and nothing else with it.
func checkErrors(t *testing.T, what string, r []api.RvPoint, e api.Errno) {
	t.Helper()
	if e == api.OK {
		return
	}
	checkBad(t, what, r, nil, e)
	for _, at := range []int{0, -1, 99} {
		checkPoured(t, what, r, at, nil, e)
	}
	checkFill(t, what, r, nil, e)
	checkCarve(t, what, r, nil, e)
	checkFewest(t, what, r, nil, e)
	checkMust(t, what, r, nil, nil, e)
	checkProof(t, what, r, nil, e)
	checkLeast(t, what, r, 0, nil, e)
}

func checkNumbers(t *testing.T, what string, r []api.RvPoint, got []int, f api.Errno, want []int, e api.Errno) {
	t.Helper()
	if !slices.Equal(got, want) || f != e {
		t.Errorf("%s of %v = %v, %d, not %v, %d", what, r, got, f, want, e)
	}
}

func checkBad(t *testing.T, what string, r []api.RvPoint, want []int, e api.Errno) {
	t.Helper()
	l, f := river.Bad(r)
	checkNumbers(t, what+": Bad", r, l, f, want, e)
}

func checkPoured(t *testing.T, what string, r []api.RvPoint, at int, want []int, e api.Errno) {
	t.Helper()
	l, f := river.Poured(r, at)
	checkNumbers(t, what+": Poured", r, l, f, want, e)
}

func checkFill(t *testing.T, what string, r []api.RvPoint, want []int, e api.Errno) {
	t.Helper()
	l, f := river.Fill(r)
	checkNumbers(t, what+": Fill", r, l, f, want, e)
}

func checkCarve(t *testing.T, what string, r []api.RvPoint, want []int, e api.Errno) {
	t.Helper()
	l, f := river.Carve(r)
	checkNumbers(t, what+": Carve", r, l, f, want, e)
}

func checkFewest(t *testing.T, what string, r []api.RvPoint, want []int, e api.Errno) {
	t.Helper()
	l, f := river.Fewest(r)
	checkNumbers(t, what+": Fewest", r, l, f, want, e)
}

func checkMust(t *testing.T, what string, r []api.RvPoint, must, may []int, e api.Errno) {
	t.Helper()
	l, m, f := river.Must(r)
	if !slices.Equal(l, must) || !slices.Equal(m, may) || f != e {
		t.Errorf("%s: Must of %v = %v, %v, %d, not %v, %v, %d", what, r, l, m, f, must, may, e)
	}
}

func checkProof(t *testing.T, what string, r []api.RvPoint, want []int, e api.Errno) {
	t.Helper()
	l, f := river.Proof(r)
	checkNumbers(t, what+": Proof", r, l, f, want, e)
}

func checkLeast(t *testing.T, what string, r []api.RvPoint, change int, want []int, e api.Errno) {
	t.Helper()
	n, l, f := river.Least(r)
	if n != change || !slices.Equal(l, want) || f != e {
		t.Errorf("%s: Least of %v = %d, %v, %d, not %d, %v, %d", what, r, n, l, f, change, want, e)
	}
}

// The examples of the chapter, and the sixth one of the document.
func TestExamples(t *testing.T) {
	r := valley(38)
	checkBad(t, "R", r, []int{2, 4}, api.OK)
	checkPoured(t, "R", r, 3, []int{3, 2}, api.OK)
	checkPoured(t, "R", r, 1, []int{1, 0}, api.OK)
	checkFill(t, "R", r, []int{0, 40, 50, 70, 40}, api.OK)
	checkCarve(t, "R", r, []int{0, 35, 45, 70, 38}, api.OK)
	checkFewest(t, "R", r, []int{1}, api.OK)
	checkMust(t, "R", r, []int{1}, []int{1}, api.OK)
	checkProof(t, "R", r, []int{0, 1, 1, 2, 3}, api.OK)
	checkLeast(t, "R", r, 5, []int{0, 35, 45, 70, 38}, api.OK)
	low := valley(20)
	checkFewest(t, "the well at 20", low, []int{1}, api.OK)
	checkProof(t, "the well at 20", low, []int{0, 1, 1, 2, 3}, api.OK)
	checkLeast(t, "the well at 20", low, 20, []int{0, 20, 45, 70, 20}, api.OK)
	ford := with(r, []int{0, 35, 45, 70, 38})
	checkBad(t, "the ford at 35", ford, nil, api.OK)
	checkPoured(t, "the ford at 35", ford, 3, []int{3, 2, 1, 0}, api.OK)
}

// P6.2: just as steep as Least says is enough, and the mouth is never bad.
func TestBad(t *testing.T) {
	checkBad(t, "the mouth alone", stream(0), nil, api.OK)
	checkBad(t, "the highest mouth alone", stream(9000), nil, api.OK)
	checkBad(t, "level", stream(7, 0, 7, 0, 7), nil, api.OK)
	checkBad(t, "just steep enough", stream(7, 3, 10, 2, 12), nil, api.OK)
	checkBad(t, "too flat", stream(7, 3, 9, 2, 11), []int{1}, api.OK)
	checkBad(t, "all too flat", stream(7, 3, 9, 2, 10), []int{1, 2}, api.OK)
	checkBad(t, "beside each other", star(7, 0, 7, 1, 7, 0, 6, 500, 507), []int{2, 3}, api.OK)
	d := dice(1)
	several := 0
	for range 5000 {
		r := d.any()
		want := bad(r, heightsOf(r))
		if len(want) > 1 {
			several++
		}
		checkBad(t, "at random", r, want, api.OK)
	}
	if several < 1000 {
		t.Errorf("%d with several: too few for a test", several)
	}
}

// P6.2: each point, and what is no index.
func TestPoured(t *testing.T) {
	r := valley(38)
	for at, want := range [][]int{{0}, {1, 0}, {2}, {3, 2}, {4}} {
		checkPoured(t, "R", r, at, want, api.OK)
	}
	for _, at := range []int{-1, 5, 8, 9, math.MinInt, math.MaxInt} {
		checkPoured(t, "R", r, at, nil, api.ErrNone)
	}
	checkPoured(t, "the mouth alone", stream(5), 0, []int{0}, api.OK)
	checkPoured(t, "the mouth alone", stream(5), 1, nil, api.ErrNone)
	d := dice(2)
	far := 0
	for range 5000 {
		r := d.any()
		at := d.roll(len(r))
		want := []int{at}
		for !slices.Contains(bad(r, heightsOf(r)), at) && r[at].Down != api.RvMouth {
			at = r[at].Down
			want = append(want, at)
		}
		if len(want) > 2 {
			far++
		}
		checkPoured(t, "at random", r, want[0], want, api.OK)
	}
	if far < 300 {
		t.Errorf("%d that run far: too few for a test", far)
	}
}

// P6.3: by hand, at the lowest and highest heights.
func TestFillAndCarve(t *testing.T) {
	for _, o := range []struct {
		what        string
		r           []api.RvPoint
		fill, carve []int
		e, f        api.Errno
	}{
		{"the mouth alone", stream(3), []int{3}, []int{3}, api.OK, api.OK},
		{"all runs down", stream(3, 1, 4, 2, 6), []int{3, 4, 6}, []int{3, 4, 6}, api.OK, api.OK},
		{"a hollow", stream(3, 0, 9, 2, 6), []int{3, 9, 11}, []int{3, 4, 6}, api.OK, api.OK},
		{"a far one", stream(9, 1, 9, 2, 9, 3, 9), []int{9, 10, 12, 15}, []int{3, 4, 6, 9}, api.OK, api.OK},
		{"beside each other", star(9, 1, 7, 2, 20, 3, 5), []int{9, 10, 20, 12}, []int{2, 7, 20, 5}, api.OK, api.OK},
		{"just high enough", stream(8990, 10, 0), []int{8990, 9000}, nil, api.OK, api.ErrDown},
		{"too high", stream(8990, 11, 8995), nil, []int{8984, 8995}, api.ErrDown, api.OK},
		{"just low enough", stream(9000, 10, 10), nil, []int{0, 10}, api.ErrDown, api.OK},
		{"too low", stream(3, 10, 9), []int{3, 13}, nil, api.OK, api.ErrDown},
		{"too high and too low", stream(9000, 10, 9), nil, nil, api.ErrDown, api.ErrDown},
		{"too high and too low apart", star(8800, 300, 8000, 500, 400), nil, nil, api.ErrDown, api.ErrDown},
	} {
		checkFill(t, o.what, o.r, o.fill, o.e)
		checkCarve(t, o.what, o.r, o.carve, o.f)
	}
}

// P6.3: against all heights of small rivers, at the lowest heights and at the highest ones.
func TestFillAndCarveOfAll(t *testing.T) {
	d := dice(3)
	found := [2]int{}
	for range 400 {
		base := d.roll(2) * 8990
		r := d.rivers(d.from(1, 4), 3, base, base+10)
		var fill, carve []int
		allHeights(len(r), base, base+10, func(heights []int) {
			if len(bad(r, heights)) > 0 {
				return
			}
			if fill == nil && !lower(heights, heightsOf(r)) {
				fill = slices.Clone(heights)
			}
			if !lower(heightsOf(r), heights) {
				carve = slices.Clone(heights)
			}
		})
		if base == 0 && carve == nil {
			found[0]++
			checkCarve(t, "at random", r, nil, api.ErrDown)
		}
		if base > 0 && fill == nil {
			found[1]++
			checkFill(t, "at random", r, nil, api.ErrDown)
		}
		if fill != nil {
			checkFill(t, "at random", r, fill, api.OK)
		}
		if carve != nil {
			checkCarve(t, "at random", r, carve, api.OK)
		}
	}
	if found[0] < 20 || found[1] < 20 {
		t.Errorf("%v without heights: too few for a test", found)
	}
}

// lower reports whether one of some heights is below that of the others.
func lower(heights, others []int) bool {
	for i := range heights {
		if heights[i] < others[i] {
			return true
		}
	}
	return false
}

// P6.4, P6.5: by hand: what is out of reach, and which one of several is the first.
func TestWhichPoints(t *testing.T) {
	for _, o := range []struct {
		what      string
		r         []api.RvPoint
		few       []int
		must, may []int
		proof     []int
	}{
		{"the mouth alone", stream(3), nil, nil, nil, []int{0}},
		{"all runs down", stream(3, 1, 4, 2, 6), nil, nil, nil, []int{0, 1, 2}},
		{"one of two", stream(5, 1, 5), []int{0}, nil, []int{0, 1}, []int{0, 0}},
		{"two of three", stream(9, 1, 9, 1, 9), []int{0, 1}, nil, []int{0, 1, 2}, []int{0, 0, 0}},
		{"the first of two", stream(3, 1, 2, 1, 9), []int{0}, nil, []int{0, 1}, []int{0, 0, 1}},
		{"the last but one", stream(3, 0, 9, 0, 6), []int{1}, nil, []int{1, 2}, []int{0, 1, 1}},
		{"the mouth", star(9, 0, 6, 0, 7, 0, 8), []int{0}, []int{0}, []int{0}, []int{0, 0, 1, 2}},
		{"the last", stream(9, 0, 30, 0, 8), []int{2}, []int{2}, []int{2}, []int{0, 1, 0}},
		{"the last, but not alone", stream(9, 1, 10, 1, 9), []int{2}, []int{2}, []int{2}, []int{0, 1, 0}},
		{"two pairs", stream(10, 0, 5, 0, 20, 0, 15), []int{0, 2}, nil, []int{0, 1, 2, 3}, []int{0, 0, 1, 1}},
		{"too low to be reached", stream(0, 10, 9), []int{1}, []int{1}, []int{1}, []int{0, -1}},
		{"just low enough", stream(0, 10, 10), nil, nil, nil, []int{0, 1}},
		{"too low for the points between", stream(0, 10, 15, 10, 19), []int{2}, []int{2}, []int{2}, []int{0, 1, -1}},
		{"a mouth too high", stream(8991, 10, 9000), []int{0}, []int{0}, []int{0}, []int{-1, 0}},
		{"a mouth just high enough", stream(8990, 10, 9000), nil, nil, nil, []int{0, 1}},
		{"too high for the points above", stream(0, 10, 8985, 10, 8999, 6, 9000), []int{1, 2}, []int{1, 2}, []int{1, 2}, []int{0, -1, -1, 1}},
		{"all out of reach", stream(8991, 10, 9), []int{0, 1}, []int{0, 1}, []int{0, 1}, []int{-1, -1}},
		{"the greatest drop", star(8600, 300, 8900, 500, 9000), []int{0}, []int{0}, []int{0}, []int{-1, 0, 1}},
	} {
		checkFewest(t, o.what, o.r, o.few, api.OK)
		checkMust(t, o.what, o.r, o.must, o.may, api.OK)
		checkProof(t, o.what, o.r, o.proof, api.OK)
	}
}

// P6.4: against all sets of points.
func TestFewest(t *testing.T) {
	d := dice(4)
	found := map[int]int{}
	several := 0
	for range 3000 {
		r := d.any()
		all := fewest(r)
		found[min(len(all[0]), 4)]++
		if len(all) > 1 {
			several++
		}
		checkFewest(t, "at random", r, all[0], api.OK)
		must, may := shared(all)
		checkMust(t, "at random", r, must, may, api.OK)
	}
	for many := range 5 {
		if found[many] < 100 {
			t.Errorf("%v: too few for a test", found)
		}
	}
	if several < 500 {
		t.Errorf("%d with several corrections: too few for a test", several)
	}
}

// P6.5: against all numbers of chains.
func TestProof(t *testing.T) {
	d := dice(5)
	out, joined := 0, 0
	for range 2000 {
		r := d.some(d.from(1, 6))
		want := fewestChains(r)
		if slices.Contains(want, -1) {
			out++
		}
		if slices.Max(want)+1 < len(r) {
			joined++
		}
		checkProof(t, "at random", r, want, api.OK)
	}
	if out < 100 || joined < 300 {
		t.Errorf("%d with a point out of reach, %d with fewer chains than points: too few for a test", out, joined)
	}
	for range 8 {
		r := d.rivers(9, 3, 20, 40)
		checkProof(t, "nine points", r, fewestChains(r), api.OK)
	}
}

// P6.6: by hand: which heights are the first ones, and what comes to the highest or lowest height.
func TestWhichHeights(t *testing.T) {
	for _, o := range []struct {
		what    string
		r       []api.RvPoint
		change  int
		heights []int
	}{
		{"the mouth alone", stream(3), 0, []int{3}},
		{"all runs down", stream(3, 1, 4, 2, 6), 0, []int{3, 4, 6}},
		{"the lower one of two", stream(9, 0, 5), 4, []int{5, 5}},
		{"the one between", stream(9, 0, 5, 0, 1), 8, []int{5, 5, 5}},
		{"two above", star(9, 0, 5, 0, 1), 8, []int{1, 5, 1}},
		{"two below", stream(9, 0, 9, 0, 1), 8, []int{9, 9, 9}},
		{"each for itself", star(9, 3, 11, 0, 30, 1, 10), 1, []int{8, 11, 30, 10}},
		{"at the lowest height", stream(0, 10, 3, 0, 3), 14, []int{0, 10, 10}},
		{"at the lowest height, with more points", stream(0, 10, 0, 10, 0, 10, 0), 60, []int{0, 10, 20, 30}},
		{"at the highest height", stream(9000, 0, 9000, 20, 8990), 50, []int{8980, 8980, 9000}},
		{"at the highest height of another one", stream(9000, 0, 9000, 500, 0), 10000, []int{8500, 8500, 9000}},
		{"from the highest to the lowest", star(9000, 500, 0, 100, 9000), 9500, []int{0, 500, 9000}},
		{"the mouth is not the first point", []api.RvPoint{point('b', 2, 0, 5), point('c', 2, 0, 1), point('a', api.RvMouth, 0, 9)}, 8, []int{5, 1, 1}},
	} {
		checkLeast(t, o.what, o.r, o.change, o.heights, api.OK)
	}
}

// P6.6: against all heights of small rivers, at the lowest heights and at the highest ones.
func TestLeastOfAll(t *testing.T) {
	d := dice(6)
	several, tried := 0, [2]int{}
	for range 600 {
		base := d.roll(2) * 8991
		r := d.rivers(d.from(1, 4), 3, base, base+9)
		least, many := -1, 0
		var first []int
		allHeights(len(r), base, base+9, func(heights []int) {
			if len(bad(r, heights)) > 0 {
				return
			}
			sum := change(r, heights)
			if least < 0 || sum < least {
				least, many, first = sum, 0, slices.Clone(heights)
			}
			if sum == least {
				many++
			}
		})
		// Heights beyond the small ones may do where these do not, or be the first ones where these are at the end.
		if least < 0 || slices.Contains(first, base+9) && base == 0 || slices.Contains(first, base) && base > 0 {
			continue
		}
		tried[base/8991]++
		if many > 1 {
			several++
		}
		checkLeast(t, "at random", r, least, first, api.OK)
	}
	if several < 50 || tried[0] < 100 || tried[1] < 100 {
		t.Errorf("%v tried, %d with several: too few for a test", tried, several)
	}
}

// P6.6: against all heights at each point, of rivers of all sorts: none are before those of Least.
func TestFirstOfTheLeast(t *testing.T) {
	d := dice(7)
	for range 150 {
		r := d.any()
		spans := anyHeight(r)
		least := leastChange(r, spans)
		n, heights, e := river.Least(r)
		if e != api.OK || n != least || !runDown(r, heights) || change(r, heights) != n {
			t.Fatalf("Least of %v = %d, %v, %d; tried: %d", r, n, heights, e, least)
		}
		for i, h := range heights {
			if h > 0 {
				spans[i] = api.Span{Lo: 0, Hi: h - 1}
				if lower := leastChange(r, spans); lower <= least {
					t.Errorf("Least of %v = %d, %v; point %d can be lower", r, n, heights, i)
				}
			}
			spans[i] = api.Span{Lo: h, Hi: h}
		}
	}
}
