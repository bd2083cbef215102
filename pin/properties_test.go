package pin_test

import (
	"slices"
	"strings"
	"testing"

	"hachure/api"
	"hachure/pin"
)

// asked returns what a function returned, but stops the test if that is an error.
func asked[T any](t *testing.T, result T, e api.Errno) T {
	t.Helper()
	if e != api.OK {
		t.Fatalf("an error: %d", e)
	}
	return result
}

// hiddenOf, seenOf and offOf return what the functions do that cannot fail.
func hiddenOf(t *testing.T, m api.PnModel, stand, eye, p int) []int {
	t.Helper()
	list, e := pin.Hidden(m, stand, eye, p)
	return asked(t, list, e)
}

func seenOf(t *testing.T, m api.PnModel, stand int) (sure, may []int) {
	t.Helper()
	sure, may, e := pin.Seen(m, stand)
	return asked(t, sure, e), may
}

func offOf(t *testing.T, m api.PnModel) []int {
	t.Helper()
	off, e := pin.Off(m)
	return asked(t, off, e)
}

// eyeOf returns the least height of eyes, or more than they can be.
func eyeOf(t *testing.T, m api.PnModel, stand, p int) int {
	t.Helper()
	eye, e := pin.Eye(m, stand, p)
	if e == api.ErrDown {
		return 2001
	}
	return asked(t, eye, e)
}

// lengthsBy and fewestOf return a list, and whether there is any.
func lengthsBy(t *testing.T, m api.PnModel) (list []int, is bool) {
	t.Helper()
	list, e := pin.Lengths(m)
	if e == api.ErrDown {
		return nil, false
	}
	return asked(t, list, e), true
}

func fewestOf(t *testing.T, m api.PnModel) (list []int, is bool) {
	t.Helper()
	list, e := pin.Fewest(m)
	if e == api.ErrDown {
		return nil, false
	}
	return asked(t, list, e), true
}

// allSure reports whether all pins are surely seen from all stands, as Seen says.
func allSure(t *testing.T, m api.PnModel) bool {
	t.Helper()
	for stand := range m.Stands {
		if sure, _ := seenOf(t, m, stand); len(sure) < len(m.Pins) {
			return false
		}
	}
	return true
}

// containsAll reports whether a list has all things of another one.
func containsAll[T comparable](list, other []T) bool {
	return !slices.ContainsFunc(other, func(thing T) bool { return !slices.Contains(list, thing) })
}

// P10.7: with Lengths all pins are seen, and any lengths that show all are at least as great; without, no lengths show all.
func TestTheorem(t *testing.T) {
	d := dice(6)
	is, longer, down, others := 0, 0, 0, 0
	for range 1500 {
		m := d.small()
		least, some := lengthsBy(t, m)
		if some {
			is++
			if !allSure(t, long(m, least)) {
				t.Errorf("%v: Lengths = %v, but not all pins are seen", m, least)
			}
			if !slices.Equal(least, lengthsOf(m)) {
				longer++
			}
		} else {
			down++
		}
		for list := range allLengths(m) {
			if !allSure(t, long(m, list)) {
				continue
			}
			if others++; !some {
				t.Errorf("%v: Lengths returns ErrDown, but with %v all pins are seen", m, list)
				break
			}
			for i, n := range list {
				if n < least[i] {
					t.Errorf("%v: Lengths = %v, but with %v all pins are seen", m, least, list)
				}
			}
		}
	}
	if is < 300 || longer < 100 || down < 100 || others < 10000 {
		t.Errorf("%d with lengths, %d with longer pins, %d without, %d lengths: too few for a test", is, longer, down, others)
	}
}

// P10.7: long pins: lengths that show all are as great, and one pin that is shorter by 1 shows that none is too long.
func TestTheoremOfLongPins(t *testing.T) {
	d := dice(7)
	longer, shown := 0, 0
	for range 3000 {
		m := d.sort(d.flat, d.any)
		least, some := lengthsBy(t, m)
		if some && !allSure(t, long(m, least)) {
			t.Errorf("%v: Lengths = %v, but not all pins are seen", m, least)
		}
		for i, n := range least {
			if n == m.Pins[i].Length {
				continue
			}
			longer++
			shorter := slices.Clone(least)
			shorter[i]--
			if allSure(t, long(m, shorter)) {
				t.Errorf("%v: Lengths = %v, but with %v all pins are seen", m, least, shorter)
			}
		}
		for range 10 {
			var list []int
			for _, p := range m.Pins {
				list = append(list, d.from(p.Length, p.Most))
			}
			if !allSure(t, long(m, list)) {
				continue
			}
			shown++
			for i, n := range list {
				if !some || n < least[i] {
					t.Errorf("%v: Lengths = %v, but with %v all pins are seen", m, least, list)
				}
			}
		}
	}
	if longer < 500 || shown < 5000 {
		t.Errorf("%d longer pins, %d lengths that show all: too few for a test", longer, shown)
	}
}

// P10.8: with higher eyes no pin is lost; each one is seen just with eyes from Eye on.
func TestTaller(t *testing.T) {
	d := dice(8)
	gained, lines, eyes := 0, 0, 0
	for range 1500 {
		m := d.sort(d.any, d.walls)
		for i, s := range m.Stands {
			sure, may := seenOf(t, m, i)
			taller := clone(m)
			taller.Stands[i].Eye = span(d.from(s.Eye.Lo, s.Eye.Hi), min(2000, s.Eye.Hi+d.roll(200)))
			now, then := seenOf(t, taller, i)
			if !containsAll(now, sure) || !containsAll(then, may) || !containsAll(may, sure) {
				t.Errorf("%v: Seen of %d = %v, %v; with %v: %v, %v", m, i, sure, may, taller.Stands[i], now, then)
			}
			gained += len(now) - len(sure)
			for p := range m.Pins {
				least := eyeOf(t, m, i, p)
				if 0 < least && least < 2001 {
					eyes++
				}
				low := d.roll(2001)
				high := d.from(low, 2000)
				for _, eye := range []int{0, max(0, least-1), min(least, 2000), low, high, 2000} {
					if seen := len(hiddenOf(t, m, i, eye, p)) == 0; seen != (eye >= least) {
						t.Errorf("%v: Eye of %d, %d = %d, but with %d it is seen: %v", m, i, p, least, eye, seen)
					}
				}
				if !containsAll(hiddenOf(t, m, i, low, p), hiddenOf(t, m, i, high, p)) {
					t.Errorf("%v: with eyes at %d some field hides %d from %d that does not with %d", m, high, p, i, low)
				}
				lines++
			}
		}
	}
	if gained < 50 || lines < 10000 || eyes < 1000 {
		t.Errorf("%d pins more, %d lines, %d with an Eye: too few for a test", gained, lines, eyes)
	}
}

// P10.9: the pin of Stuck is hidden with any lengths of which no other one is below what it was before the round.
func TestStuck(t *testing.T) {
	d := dice(9)
	stuck, later := 0, 0
	for range 4000 {
		m := d.sort(d.flat, d.small)
		round, p, i, field, e := pin.Stuck(m)
		if _, is := lengthsBy(t, m); is != (e == api.ErrNone) {
			t.Errorf("%v: Stuck returns %d, but Lengths are told: %v", m, e, is)
		}
		if e != api.OK {
			continue
		}
		stuck++
		before := rounds(m).lengths[round-1]
		if !slices.Equal(before, lengthsOf(m)) {
			later++
		}
		for try := range 20 {
			list := slices.Clone(before)
			list[p] = m.Pins[p].Most
			for other, q := range m.Pins {
				switch {
				case try == 0:
				case other == p:
					list[other] = d.from(q.Length, q.Most)
				default:
					list[other] = d.from(before[other], q.Most)
				}
			}
			if !slices.Contains(hiddenOf(t, long(m, list), i, m.Stands[i].Eye.Lo, p), field) {
				t.Errorf("%v: Stuck = %d, %d, %d, %d, but with %v the field does not hide the pin", m, round, p, i, field, list)
			}
		}
	}
	if stuck < 500 || later < 50 {
		t.Errorf("%d that are stuck, %d not at first: too few for a test", stuck, later)
	}
}

// P10.10: a pin that was seen still is without another pin, and with a longer pin of its own.
func TestAlone(t *testing.T) {
	d := dice(10)
	seen, gained, lost := 0, [2]int{}, 0
	for range 3000 {
		m := d.flat()
		off, longer := d.roll(len(m.Pins)), d.roll(len(m.Pins))
		less, more := without(m, off), clone(m)
		more.Pins[longer].Length = d.from(m.Pins[longer].Length, 300)
		more.Pins[longer].Most = 300
		for i := range m.Stands {
			sure, may := seenOf(t, m, i)
			lessSure, lessMay := seenOf(t, less, i)
			moreSure, moreMay := seenOf(t, more, i)
			for k, lists := range [][3][]int{{sure, lessSure, moreSure}, {may, lessMay, moreMay}} {
				for p := range m.Pins {
					left := p
					if p > off {
						left--
					}
					was, still, own := slices.Contains(lists[0], p), slices.Contains(lists[1], left), slices.Contains(lists[2], p)
					if was && p != off && !still {
						t.Errorf("%v: %d is seen from %d, but not without %d", m, p, i, off)
					}
					if was && p == longer && !own {
						t.Errorf("%v: %d is seen from %d, but not with %v", m, p, i, more.Pins[p])
					}
					switch {
					case was:
						seen++
					case p != off && still:
						gained[0]++
					case p == longer && own:
						gained[1]++
					}
					if k == 0 && was && !own {
						lost++
					}
				}
			}
		}
	}
	if seen < 10000 || slices.Min(gained[:]) < 100 || lost < 100 {
		t.Errorf("%d seen, %v gained, %d lost by another pin: too few for a test", seen, gained, lost)
	}
}

// P10.11: from no place beside the model more pins are seen; those of Best are seen from there.
func TestNoBetterPlace(t *testing.T) {
	d := dice(11)
	fewer := 0
	for range 800 {
		m := d.sort(d.any, d.flat, d.walls)
		eye := d.from(0, d.one(0, 50, 500, 2000))
		x, y, best, e := pin.Best(m, eye)
		best = asked(t, best, e)
		reached := false
		for atX, atY := range beside(m) {
			m.Stands = []api.PnStand{stand(atX, atY, eye, eye)}
			sure, _ := seenOf(t, m, 0)
			if len(sure) > len(best) {
				t.Errorf("%v: Best with %d = %d, %d: %v, but from %d, %d: %v", m, eye, x, y, best, atX, atY, sure)
			}
			if len(sure) < len(best) {
				fewer++
			}
			if atX == x && atY == y {
				reached = slices.Equal(sure, best)
			}
		}
		if !reached {
			t.Errorf("%v: Best with %d = %d, %d: %v, which is not what is seen", m, eye, x, y, best)
		}
	}
	if fewer < 1000 {
		t.Errorf("%d places with fewer pins: too few for a test", fewer)
	}
}

// P10.12: each pin is surely seen from a stand of Fewest; with any fewer stands some pin is not seen.
func TestCovered(t *testing.T) {
	d := dice(12)
	down, counts := 0, [6]int{}
	for range 4000 {
		m := d.sort(d.any, d.flat, d.walls)
		// covers reports whether each pin is surely seen from one of some stands, as Seen says.
		covers := func(stands []int) bool {
			var seen []int
			for _, s := range stands {
				sure, _ := seenOf(t, m, s)
				seen = append(seen, sure...)
			}
			slices.Sort(seen)
			return len(slices.Compact(seen)) == len(m.Pins)
		}
		list, is := fewestOf(t, m)
		if !is {
			if down++; covers(ascending(len(m.Stands), len(m.Stands))[0]) {
				t.Errorf("%v: Fewest returns ErrDown, but all pins are seen", m)
			}
			continue
		}
		counts[len(list)]++
		if !covers(list) {
			t.Errorf("%v: Fewest = %v, from which not all pins are seen", m, list)
		}
		for many := range len(list) {
			for _, fewer := range ascending(many, len(m.Stands)) {
				if covers(fewer) {
					t.Errorf("%v: Fewest = %v, but %v will do", m, list, fewer)
				}
			}
		}
	}
	if down < 300 || slices.Min(counts[:3]) < 100 || counts[3] < 5 {
		t.Errorf("%d without, %v by stands: too few for a test", down, counts)
	}
}

// P10.13: without the pins of Off all others are seen, without any fewer some is hidden; lengths that show all need none.
func TestTakenOff(t *testing.T) {
	d := dice(13)
	counts, none := [7]int{}, 0
	for range 4000 {
		m := d.sort(d.any, d.flat, d.walls)
		off := offOf(t, m)
		counts[len(off)]++
		if !allSure(t, without(m, off...)) {
			t.Errorf("%v: Off = %v, but without these some pin is hidden", m, off)
		}
		for many := range len(off) {
			for _, fewer := range ascending(many, len(m.Pins)) {
				if allSure(t, without(m, fewer...)) {
					t.Errorf("%v: Off = %v, but %v will do", m, off, fewer)
				}
			}
		}
		if least, is := lengthsBy(t, m); is {
			checkOff(t, "lengths that show all", long(m, least), nil, api.OK)
			if len(off) > 0 {
				none++
			}
		}
	}
	if slices.Min(counts[:6]) < 100 || none < 100 {
		t.Errorf("%v by pins, %d with none by lengths: too few for a test", counts, none)
	}
}

// turned returns a model with other places: to tells where each X and Y is, in a model of so many fields. It returns false if
// a stand is too far away.
func turned(m api.PnModel, w, d int, to func(x, y int) (int, int)) (api.PnModel, bool) {
	other := clone(m)
	other.W, other.D = w, d
	for field, high := range m.Heights {
		x, y := to(field%m.W, field/m.W)
		other.Heights[y*w+x] = high
	}
	for i, p := range m.Pins {
		other.Pins[i].X, other.Pins[i].Y = to(p.X, p.Y)
	}
	near := true
	for i, s := range m.Stands {
		x, y := to(s.X, s.Y)
		other.Stands[i].X, other.Stands[i].Y = x, y
		near = near && away(x, 0) <= 20 && away(y, 0) <= 20
	}
	return other, near
}

// checkSame checks that the same pins are seen in two models, and that Lengths, Fewest and Off are the same.
func checkSame(t *testing.T, what string, m, other api.PnModel) {
	t.Helper()
	for i := range m.Stands {
		sure, may := seenOf(t, m, i)
		checkSeen(t, what, other, i, sure, may, api.OK)
	}
	list, e := pin.Lengths(m)
	checkLengths(t, what, other, list, e)
	list, e = pin.Fewest(m)
	checkFewest(t, what, other, list, e)
	list, e = pin.Off(m)
	checkOff(t, what, other, list, e)
}

// P10.14: the model is mirrored, or X and Y are exchanged.
func TestMirrored(t *testing.T) {
	d := dice(14)
	many := 0
	for range 2000 {
		m := d.sort(d.any, d.flat, d.walls)
		mirrored, near := turned(m, m.W, m.D, func(x, y int) (int, int) { return m.W - 1 - x, y })
		exchanged, _ := turned(m, m.D, m.W, func(x, y int) (int, int) { return y, x })
		eye := d.from(0, d.one(0, 50, 500, 2000))
		_, _, best, e := pin.Best(m, eye)
		best = asked(t, best, e)
		for _, other := range []api.PnModel{mirrored, exchanged} {
			if !near {
				other = exchanged
			}
			many++
			checkSame(t, "turned", m, other)
			if _, _, pins, e := pin.Best(other, eye); len(pins) != len(best) || e != api.OK {
				t.Errorf("%v: Best with %d sees %v, turned: %v, %d", m, eye, best, pins, e)
			}
		}
	}
	if many < 4000 {
		t.Errorf("%d models: too few for a test", many)
	}
}

// P10.15: all fields and all eyes are higher by the same number.
func TestHigher(t *testing.T) {
	d := dice(15)
	raised := 0
	for range 3000 {
		m := d.sort(d.any, d.flat)
		high := slices.Max(m.Heights)
		by := d.from(0, 500-high)
		other := clone(m)
		for i := range m.Heights {
			other.Heights[i] += by
		}
		for i := range m.Stands {
			other.Stands[i].Eye.Lo += by
			other.Stands[i].Eye.Hi += by
		}
		if _, _, e := pin.Check(other); e != api.OK {
			continue
		}
		checkSame(t, "higher", m, other)
		if by > 0 {
			raised++
		}
	}
	if raised < 1000 {
		t.Errorf("%d models: too few for a test", raised)
	}
}

// greatestModel is a model whose numbers and lists are all as great as can be.
func greatestModel() api.PnModel {
	m := api.PnModel{W: 8, D: 8, Heights: slices.Repeat([]int{500}, 64)}
	for i, n := range names() {
		m.Pins = append(m.Pins, stick(strings.Repeat(n, 5)+"s", 7-i, 7-i/2, 300, 300))
	}
	for _, x := range []int{-20, 20} {
		m.Stands = append(m.Stands, stand(x, 20, 0, 2000), stand(x, -20, 2000, 2000))
	}
	m.Stands = append(m.Stands, stand(-20, 7, 0, 0))
	return m
}

// P1: the greatest models are gone through, and those with many rounds.
func TestTheGreatest(t *testing.T) {
	m := greatestModel()
	for i, s := range m.Stands {
		checkSeen(t, "the greatest", m, i, surely(m, i), seenFrom(m, s.X, s.Y, s.Eye.Hi), api.OK)
	}
	checkLengths(t, "the greatest", m, nil, api.ErrDown)
	o := rounds(m)
	checkStuck(t, "the greatest", m, o.round, o.pin, o.stand, o.height, api.OK)
	off, _, _ := fewest(6, func(list []int) bool { return showsAll(without(m, list...)) })
	checkOff(t, "the greatest", m, off, api.OK)
	// All pins are in a row, and are to be seen over each other from both ends: they become longer round by round.
	m = api.PnModel{W: 8, D: 1, Heights: make([]int, 8), Stands: []api.PnStand{stand(-20, 0, 0, 9), stand(20, 0, 0, 9)}}
	for i, n := range names() {
		m.Pins = append(m.Pins, stick(n, i, 0, 0, 300))
	}
	o = rounds(m)
	if !o.stuck || o.round < 15 {
		t.Errorf("%d rounds: too few for a test", o.round)
	}
	checkLengths(t, "many rounds", m, nil, api.ErrDown)
	checkStuck(t, "many rounds", m, o.round, o.pin, o.stand, o.height, api.OK)
}

// callAll calls all functions, and reports whether there is no error in the model.
func callAll(m api.PnModel, stand, eye, p int) bool {
	pin.Hidden(m, stand, eye, p)
	pin.Seen(m, stand)
	pin.Eye(m, stand, p)
	pin.Lengths(m)
	pin.Stuck(m)
	pin.Best(m, eye)
	pin.Fewest(m)
	pin.Off(m)
	_, _, e := pin.Check(m)
	return e == api.OK
}

// P1, P10.16: any arguments are accepted.
func TestAnyArguments(t *testing.T) {
	d := dice(16)
	odd := []int{small, small + 1, -1000, -21, -20, -2, -1, 0, 0, 1, 1, 2, 3, 4, 5, 8, 9, 20, 21, 30, 300, 301, 500, 501, 2000, 2001, 1 << 32, big - 1, big}
	pick := func() int { return odd[d.roll(len(odd))] }
	right := 0
	for range 8000 {
		m := clone(sample())
		for range d.roll(3) {
			p, s := &m.Pins[d.roll(len(m.Pins))], &m.Stands[d.roll(len(m.Stands))]
			numbers := []*int{&m.W, &m.D, &m.Heights[d.roll(len(m.Heights))], &p.X, &p.Y, &p.Length, &p.Most, &s.X, &s.Y, &s.Eye.Lo, &s.Eye.Hi}
			switch n := d.roll(len(numbers) + 3); n {
			default:
				*numbers[n] = pick()
			case 11:
				m.Heights = append(m.Heights, pick())
			case 12:
				m.Pins = append(m.Pins, stick([]string{"fir", "", "yew", "oak", "\xff"}[d.roll(5)], pick(), pick(), pick(), pick()))
			case 13:
				m.Stands = append(m.Stands, stand(pick(), pick(), pick(), pick()))
			}
		}
		if callAll(m, d.one(0, 0, pick()), pick(), d.one(0, 1, pick())) {
			right++
		} else {
			_, _, e := pin.Check(m)
			checkErrors(t, "odd numbers", m, e)
		}
	}
	if right < 2000 || right > 6000 {
		t.Errorf("%d without an error: too few for a test, or too many", right)
	}
	callAll(api.PnModel{}, 0, 0, 0)
}

// P10.16: no argument is modified.
func TestArguments(t *testing.T) {
	d := dice(17)
	for range 500 {
		// Each list has room behind it, where nothing may be written.
		m := d.sort(d.any, d.flat, d.walls)
		m.Heights = append(m.Heights, 7)
		m.Pins = append(m.Pins, stick("last", 7, 7, 7, 7))
		m.Stands = append(m.Stands, stand(7, 7, 7, 7))
		before := clone(m)
		less := m
		less.Heights, less.Pins, less.Stands = m.Heights[:len(m.Heights)-1], m.Pins[:len(m.Pins)-1], m.Stands[:len(m.Stands)-1]
		if !callAll(less, 0, d.roll(100), 0) {
			t.Errorf("%v: an error", less)
		}
		if !equal(m, before) {
			t.Errorf("%v is now %v", before, m)
		}
	}
}

// P10.16: a result is new memory.
func TestMemory(t *testing.T) {
	m := sample()
	m.Stands = append(m.Stands, stand(-1, -1, 30, 30))
	for range 2 {
		hidden := hiddenOf(t, m, 0, 30, 2)
		sure, may := seenOf(t, m, 0)
		lengths, _ := lengthsBy(t, m)
		_, _, best, _ := pin.Best(m, 30)
		stands, _ := fewestOf(t, m)
		off := offOf(t, m)
		for i, list := range [][]int{hidden, sure, may, lengths, best, stands, off} {
			want := [][]int{{0, 2}, {0}, {0, 1, 2}, {30, 31, 12}, {0, 1, 2}, {1}, {0, 1}}[i]
			if !slices.Equal(list, want) {
				t.Fatalf("%d: %v, not %v", i, list, want)
			}
			for k := range list {
				list[k] = 99
			}
		}
		if sample := sample(); !slices.Equal(m.Heights, sample.Heights) || !slices.Equal(m.Pins, sample.Pins) {
			t.Errorf("a result shares memory: %v", m)
		}
	}
}
