package river_test

import (
	"math"
	"slices"
	"testing"

	"hachure/api"
	"hachure/river"
)

// numbers returns what a function with numbers does, without an error.
func numbers(t *testing.T, l []int, e api.Errno) []int {
	t.Helper()
	if e != api.OK {
		t.Fatalf("%v, %d", l, e)
	}
	return l
}

func badOf(t *testing.T, r []api.RvPoint) []int {
	t.Helper()
	l, e := river.Bad(r)
	return numbers(t, l, e)
}

func pouredOf(t *testing.T, r []api.RvPoint, at int) []int {
	t.Helper()
	l, e := river.Poured(r, at)
	return numbers(t, l, e)
}

func fewestOf(t *testing.T, r []api.RvPoint) []int {
	t.Helper()
	l, e := river.Fewest(r)
	return numbers(t, l, e)
}

func proofOf(t *testing.T, r []api.RvPoint) []int {
	t.Helper()
	l, e := river.Proof(r)
	return numbers(t, l, e)
}

func leastOf(t *testing.T, r []api.RvPoint) (int, []int) {
	t.Helper()
	n, l, e := river.Least(r)
	return n, numbers(t, l, e)
}

// filled returns what Fill does, and whether there is any.
func filled(t *testing.T, r []api.RvPoint) ([]int, bool) {
	t.Helper()
	l, e := river.Fill(r)
	if e == api.ErrDown {
		return nil, false
	}
	return numbers(t, l, e), true
}

// carved returns what Carve does, and whether there is any.
func carved(t *testing.T, r []api.RvPoint) ([]int, bool) {
	t.Helper()
	l, e := river.Carve(r)
	if e == api.ErrDown {
		return nil, false
	}
	return numbers(t, l, e), true
}

// setOf returns points as a set of bits.
func setOf(list []int) (set int) {
	for _, at := range list {
		set |= 1 << at
	}
	return set
}

// P6.7: what is left when Fewest is corrected runs down; with no fewer points it does; each point of Must is in any
// correction with as many.
func TestWaterRunsDown(t *testing.T) {
	d := dice(8)
	for range 1500 {
		r := d.any()
		few := fewestOf(t, r)
		heights, is := corrected(r, setOf(few))
		if !is {
			t.Fatalf("%v: Fewest = %v", r, few)
		}
		checkMouth(t, with(r, heights))
		must, may, e := river.Must(r)
		if e != api.OK || slices.ContainsFunc(must, func(at int) bool { return !slices.Contains(few, at) }) || slices.ContainsFunc(few, func(at int) bool { return !slices.Contains(may, at) }) {
			t.Errorf("%v: Fewest = %v; Must = %v, %v, %d", r, few, must, may, e)
		}
		for set := range 1 << len(r) {
			list := points(set)
			if len(list) > len(few) {
				continue
			}
			if _, is := corrected(r, set); !is {
				continue
			}
			if len(list) < len(few) || slices.ContainsFunc(must, func(at int) bool { return set>>at&1 == 0 }) {
				t.Errorf("%v: Fewest = %v, Must = %v; but %v do", r, few, must, list)
			}
		}
	}
}

// checkMouth checks that water that is poured anywhere runs to the mouth.
func checkMouth(t *testing.T, r []api.RvPoint) {
	t.Helper()
	for at := range r {
		if l := pouredOf(t, r, at); !slices.Equal(l, way(r, at)) {
			t.Errorf("%v: Poured at %d = %v", r, at, l)
		}
	}
	if l := badOf(t, r); len(l) > 0 {
		t.Errorf("%v: Bad = %v", r, l)
	}
}

// P6.8: as many chains as points that are kept; of each chain at most one point is kept by any correction, and no point
// that is out of reach.
func TestChainsProve(t *testing.T) {
	d := dice(9)
	for range 1500 {
		r := d.any()
		numbers, few := proofOf(t, r), fewestOf(t, r)
		if !areChains(r, numbers) || slices.Max(numbers)+1 != len(r)-len(few) {
			t.Errorf("%v: Proof = %v, Fewest = %v", r, numbers, few)
		}
		for set := range 1 << len(r) {
			if _, is := corrected(r, set); !is {
				continue
			}
			var seen []int
			for at, n := range numbers {
				if set>>at&1 == 1 {
					continue
				}
				if n == -1 || slices.Contains(seen, n) {
					t.Errorf("%v: Proof = %v, but all points but %v can be kept", r, numbers, points(set))
				}
				seen = append(seen, n)
			}
		}
	}
}

// P6.9: Fill and Carve run down; any heights that do are nowhere lower, or higher.
func TestFilledAndCarved(t *testing.T) {
	d := dice(10)
	some := [2]int{}
	for range 2000 {
		r := d.any()
		own := heightsOf(r)
		if l, is := filled(t, r); is {
			some[0]++
			if !runDown(r, l) || lower(l, own) {
				t.Errorf("%v: Fill = %v", r, l)
			}
			checkMouth(t, with(r, l))
			for range 10 {
				if other := d.running(r, own, 20); lower(other, l) {
					t.Errorf("%v: Fill = %v, but %v run down", r, l, other)
				}
			}
		} else if other := d.running(r, own, 0); runDown(r, other) {
			t.Errorf("%v: no Fill, but %v run down", r, other)
		}
		low := d.running(r, make([]int, len(r)), 20)
		if l, is := carved(t, r); is {
			some[1]++
			if !runDown(r, l) || lower(own, l) {
				t.Errorf("%v: Carve = %v", r, l)
			}
			checkMouth(t, with(r, l))
			if !lower(own, low) && lower(l, low) {
				t.Errorf("%v: Carve = %v, but %v run down", r, l, low)
			}
		} else if low := d.running(r, make([]int, len(r)), 0); !lower(own, low) {
			t.Errorf("%v: no Carve, but %v run down", r, low)
		}
	}
	if slices.Min(some[:]) < 300 {
		t.Errorf("%v: too few for a test", some)
	}
}

// P6.9: heights from which some were lowered are nowhere higher than those of Carve.
func TestCarvedFromBelow(t *testing.T) {
	d := dice(11)
	reached := 0
	for range 2000 {
		r := d.nearlyRight(d.from(1, api.MaxRvPoints))
		low := d.running(r, make([]int, len(r)), 40)
		for i := range r {
			r[i].Height = min(9000, low[i]+d.roll(3)*d.roll(20))
		}
		l, is := carved(t, r)
		if !is || lower(l, low) {
			t.Errorf("%v: Carve = %v, but %v run down", r, l, low)
		}
		if slices.Equal(l, low) {
			reached++
		}
	}
	if reached < 50 {
		t.Errorf("%d that are reached: too few for a test", reached)
	}
}

// P6.10: any heights that run down have at least the change of Least.
func TestLeastChange(t *testing.T) {
	d := dice(12)
	none := 0
	for range 1000 {
		r := d.any()
		n, heights := leastOf(t, r)
		if !runDown(r, heights) || change(r, heights) != n || (n == 0) != (len(badOf(t, r)) == 0) {
			t.Errorf("%v: Least = %d, %v", r, n, heights)
		}
		if n == 0 {
			none++
		}
		if l, is := filled(t, r); is && change(r, l) < n {
			t.Errorf("%v: Least = %d, but Fill = %v", r, n, l)
		}
		if l, is := carved(t, r); is && change(r, l) < n {
			t.Errorf("%v: Least = %d, but Carve = %v", r, n, l)
		}
		for range 20 {
			low := slices.Clone(heights)
			for i := range low {
				low[i] = max(0, low[i]-d.roll(9))
			}
			if other := d.running(r, low, 3); runDown(r, other) && change(r, other) < n {
				t.Errorf("%v: Least = %d, %v, but %v change less", r, n, heights, other)
			}
		}
	}
	if none < 50 || none > 700 {
		t.Errorf("%d without a change: too few or too many for a test", none)
	}
}

// P6.11: water stops at the mouth, or at a point of Bad, and comes from point to point.
func TestWhereWaterStops(t *testing.T) {
	d := dice(13)
	for range 3000 {
		r := d.any()
		stops := badOf(t, r)
		for at := range r {
			l := pouredOf(t, r, at)
			last := l[len(l)-1]
			if l[0] != at || r[last].Down != api.RvMouth && !slices.Contains(stops, last) {
				t.Errorf("%v: Poured at %d = %v; Bad = %v", r, at, l, stops)
			}
			for i, to := range l[1:] {
				if r[l[i]].Down != to || slices.Contains(stops, l[i]) {
					t.Errorf("%v: Poured at %d = %v; Bad = %v", r, at, l, stops)
				}
			}
		}
	}
}

// P6.12: a corrected point, and one that has another height.
func TestCorrected(t *testing.T) {
	d := dice(14)
	for range 2000 {
		r := d.any()
		few := fewestOf(t, r)
		set := setOf(few) | d.roll(1<<len(r))
		heights, is := corrected(r, set)
		if !is {
			t.Fatalf("%v: Fewest = %v, but %v is no correction", r, few, points(set))
		}
		checkFewest(t, "corrected", with(r, heights), nil, api.OK)
		one := slices.Clone(r)
		at := d.roll(len(r))
		one[at].Height = heights[at]
		if d.roll(2) == 0 {
			one[at].Height = d.roll(9001)
		}
		if left := fewestOf(t, one); len(left) < len(few)-1 || len(left) > len(few)+1 {
			t.Errorf("%v: Fewest = %v; %v: %v", r, few, one, left)
		}
	}
}

// raised returns rivers all of whose heights are higher by the same number.
func (d *dice) raised(r []api.RvPoint) []api.RvPoint {
	r = slices.Clone(r)
	up := d.from(0, 9000-slices.Max(heightsOf(r)))
	for i := range r {
		r[i].Height += up
	}
	return r
}

// anyOut reports whether a point is out of reach.
func anyOut(r []api.RvPoint) bool {
	for i := range r {
		if outOfReach(r, i) {
			return true
		}
	}
	return false
}

// P6.13: all heights are higher.
func TestHigher(t *testing.T) {
	d := dice(15)
	same := 0
	for range 3000 {
		r := d.some(d.from(2, api.MaxRvPoints))
		higher := d.raised(r)
		checkBad(t, "higher", higher, badOf(t, r), api.OK)
		for at := range r {
			checkPoured(t, "higher", higher, at, pouredOf(t, r, at), api.OK)
		}
		if anyOut(r) || anyOut(higher) {
			continue
		}
		same++
		checkFewest(t, "higher", higher, fewestOf(t, r), api.OK)
		checkProof(t, "higher", higher, proofOf(t, r), api.OK)
		must, may, e := river.Must(r)
		checkMust(t, "higher", higher, must, may, e)
		before, _ := leastOf(t, r)
		if after, _ := leastOf(t, higher); after != before {
			t.Errorf("%v: Least = %d; %v: %d", r, before, higher, after)
		}
	}
	if same < 300 {
		t.Errorf("%d within reach: too few for a test", same)
	}
}

// P6.14: a greater Least.
func TestSteeper(t *testing.T) {
	d := dice(16)
	more := [2]int{}
	for range 3000 {
		r := d.some(d.from(2, api.MaxRvPoints))
		steeper := slices.Clone(r)
		p := &steeper[d.roll(len(r))]
		if p.Down == api.RvMouth {
			continue
		}
		p.Least = d.from(p.Least, min(500, p.Least+50))
		before, after := badOf(t, r), badOf(t, steeper)
		if slices.ContainsFunc(before, func(at int) bool { return !slices.Contains(after, at) }) {
			t.Errorf("%v: Bad = %v; %v: %v", r, before, steeper, after)
		}
		few, many := fewestOf(t, r), fewestOf(t, steeper)
		if len(many) < len(few) {
			t.Errorf("%v: Fewest = %v; %v: %v", r, few, steeper, many)
		}
		if len(after) > len(before) {
			more[0]++
		}
		if len(many) > len(few) {
			more[1]++
		}
	}
	if slices.Min(more[:]) < 100 {
		t.Errorf("%v with more: too few for a test", more)
	}
}

// P1: the greatest cases are gone through.
func TestTheGreatest(t *testing.T) {
	var falling []int
	for i := range 8 {
		falling = append(falling, 500, 8000-i)
	}
	r := stream(9000, falling...)
	checkBad(t, "the greatest", r, []int{1, 2, 3, 4, 5, 6, 7, 8}, api.OK)
	checkFewest(t, "the greatest", r, []int{0, 1, 2, 3, 4, 5, 6, 7}, api.OK)
	checkProof(t, "the greatest", r, []int{-1, -1, -1, -1, -1, -1, 0, 0, 0}, api.OK)
	checkMust(t, "the greatest", r, []int{0, 1, 2, 3, 4, 5}, []int{0, 1, 2, 3, 4, 5, 6, 7, 8}, api.OK)
	checkFill(t, "the greatest", r, nil, api.ErrDown)
	checkCarve(t, "the greatest", r, []int{3993, 4493, 4993, 5493, 5993, 6493, 6993, 7493, 7993}, api.OK)
	n, heights := leastOf(t, r)
	if !runDown(r, heights) || n != leastChange(r, anyHeight(r)) {
		t.Errorf("Least = %d, %v", n, heights)
	}
	level := stream(5008, 0, 5007, 0, 5006, 0, 5005, 0, 5004, 0, 5003, 0, 5002, 0, 5001, 0, 5000)
	checkProof(t, "all in one chain", level, make([]int, 9), api.OK)
	checkLeast(t, "all in one chain", level, 20, slices.Repeat([]int{5004}, 9), api.OK)
}

// P1, P6.15: any arguments are accepted.
func TestAnyArguments(t *testing.T) {
	d := dice(17)
	odd := []int{math.MinInt, math.MinInt + 1, -2, -1, -1, 0, 0, 1, 1, 2, 2, 3, 4, 5, 8, 9, 500, 501, 9000, 9001, math.MaxInt - 1, math.MaxInt}
	pick := func() int { return odd[d.roll(len(odd))] }
	names := []string{"", "sea", "a", "b", "c", "-", "\xff\xfe", "A"}
	for range 5000 {
		r := valley(d.roll(60))[:d.from(0, 5)]
		for range d.roll(4) {
			if len(r) == 0 || d.roll(4) == 0 {
				r = append(r, api.RvPoint{Name: names[d.roll(len(names))], Down: pick(), Least: pick(), Height: pick()})
				continue
			}
			p := &r[d.roll(len(r))]
			switch d.roll(4) {
			case 0:
				p.Name = names[d.roll(len(names))]
			case 1:
				p.Down = pick()
			case 2:
				p.Least = pick()
			default:
				p.Height = pick()
			}
		}
		_, _, e := river.Check(r)
		checkErrors(t, "odd numbers", r, e)
		river.Bad(r)
		river.Poured(r, pick())
		river.Fill(r)
		river.Carve(r)
		river.Fewest(r)
		river.Must(r)
		river.Proof(r)
		river.Least(r)
	}
}

// P6.15: no argument is modified.
func TestArguments(t *testing.T) {
	d := dice(18)
	for range 200 {
		// The points have room behind them, where nothing may be written.
		room := append(d.any(), point('z', 7, 7, 7))
		r := room[: len(room)-1 : len(room)]
		before := slices.Clone(room)
		river.Check(r)
		river.Bad(r)
		river.Poured(r, 0)
		river.Fill(r)
		river.Carve(r)
		river.Fewest(r)
		river.Must(r)
		river.Proof(r)
		river.Least(r)
		if !slices.Equal(room, before) {
			t.Errorf("%v is %v", before, room)
		}
	}
}

// P6.15: a result is new memory.
func TestMemory(t *testing.T) {
	r := valley(38)
	for range 2 {
		fill, _ := filled(t, r)
		carve, _ := carved(t, r)
		must, may, _ := river.Must(r)
		_, least := leastOf(t, r)
		lists := [][]int{badOf(t, r), pouredOf(t, r, 3), fill, carve, fewestOf(t, r), must, may, proofOf(t, r), least}
		want := [][]int{{2, 4}, {3, 2}, {0, 40, 50, 70, 40}, {0, 35, 45, 70, 38}, {1}, {1}, {1}, {0, 1, 1, 2, 3}, {0, 35, 45, 70, 38}}
		if !slices.EqualFunc(lists, want, slices.Equal) {
			t.Fatalf("later results changed: %v", lists)
		}
		for i, list := range lists {
			list[0] = 99
			for j, other := range lists[i+1:] {
				if !slices.Equal(other, want[i+1+j]) {
					t.Errorf("results share memory: %v", lists)
				}
			}
		}
		if !slices.Equal(r, valley(38)) {
			t.Errorf("a result shares memory: %v", r)
		}
	}
}
