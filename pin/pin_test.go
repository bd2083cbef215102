package pin_test

import (
	"math"
	"slices"
	"strings"
	"testing"

	"hachure/api"
	"hachure/pin"
)

const (
	big   = math.MaxInt
	small = math.MinInt
)

// fault is a change of the sample, and what Check says of it.
type fault struct {
	what     string
	change   func(m *api.PnModel)
	part, at int
	e        api.Errno
}

// sides returns a change of W and D, with as many heights.
func sides(w, d int) func(m *api.PnModel) {
	return func(m *api.PnModel) { m.W, m.D, m.Heights = w, d, make([]int, max(0, w*d)) }
}

// sizes returns a change of W and D alone.
func sizes(w, d int) func(m *api.PnModel) {
	return func(m *api.PnModel) { m.W, m.D = w, d }
}

// heights returns a change to so many heights, all of them wrong.
func heights(many int) func(m *api.PnModel) {
	return func(m *api.PnModel) { m.Heights = slices.Repeat([]int{-1}, many) }
}

// height, name, at, length and eyes return a change of one height, one pin's name, field or lengths, or one stand's eyes.
func height(i, high int) func(m *api.PnModel) {
	return func(m *api.PnModel) { m.Heights[i] = high }
}

func name(i int, name string) func(m *api.PnModel) {
	return func(m *api.PnModel) { m.Pins[i].Name = name }
}

func at(i, x, y int) func(m *api.PnModel) {
	return func(m *api.PnModel) { m.Pins[i].X, m.Pins[i].Y = x, y }
}

func length(i, length, most int) func(m *api.PnModel) {
	return func(m *api.PnModel) { m.Pins[i].Length, m.Pins[i].Most = length, most }
}

func eyes(i, lo, hi int) func(m *api.PnModel) {
	return func(m *api.PnModel) { m.Stands[i].Eye = span(lo, hi) }
}

// pins and stands return a change to other ones.
func pins(pins ...api.PnPin) func(m *api.PnModel) {
	return func(m *api.PnModel) { m.Pins = pins }
}

func stands(stands ...api.PnStand) func(m *api.PnModel) {
	return func(m *api.PnModel) { m.Stands = stands }
}

// place returns a change to one stand, at some place.
func place(x, y int) func(m *api.PnModel) { return stands(stand(x, y, 30, 100)) }

// all returns all changes, one after the other.
func all(changes ...func(m *api.PnModel)) func(m *api.PnModel) {
	return func(m *api.PnModel) {
		for _, change := range changes {
			change(m)
		}
	}
}

// groundFaults are those of W, D and heights.
func groundFaults() []fault {
	none := all(pins(), stands())
	wrong := all(name(0, ""), eyes(0, 2, 1))
	return []fault{
		{"the sample", all(), 0, 0, api.OK},
		{"the greatest model", func(m *api.PnModel) { *m = greatestModel() }, 0, 0, api.OK},
		{"the least model", all(none, sides(1, 1)), 0, 0, api.OK},
		{"a W of 0", sides(0, 2), 1, 0, api.ErrRange},
		{"a D of 0", sides(4, 0), 1, 0, api.ErrRange},
		{"a W below 0", sizes(-4, 2), 1, 0, api.ErrRange},
		{"a D below 0", sizes(4, -2), 1, 0, api.ErrRange},
		{"a W and a D below 0", sizes(-4, -2), 1, 0, api.ErrRange},
		{"a W too great", all(none, sides(9, 1)), 1, 0, api.ErrRange},
		{"a D too great", all(none, sides(1, 9)), 1, 0, api.ErrRange},
		{"the greatest W", all(none, sides(8, 1)), 0, 0, api.OK},
		{"the greatest D", all(none, sides(1, 8)), 0, 0, api.OK},
		{"a W of any int", sizes(big, 2), 1, 0, api.ErrRange},
		{"a D of any int", sizes(4, small), 1, 0, api.ErrRange},
		{"a W and a D of any int", sizes(small, small), 1, 0, api.ErrRange},
		{"W and D that come to as many fields", sizes(1<<32+4, 1<<32+2), 1, 0, api.ErrRange},
		{"no heights", func(m *api.PnModel) { m.Heights = nil }, 1, 0, api.ErrLong},
		{"too few heights, all wrong", heights(7), 1, 0, api.ErrLong},
		{"too many heights, all wrong", heights(9), 1, 0, api.ErrLong},
		{"as many heights, all wrong", heights(8), 1, 0, api.ErrRange},
		{"a W too great, and too few heights", all(sizes(9, 1), heights(7)), 1, 0, api.ErrRange},
		{"W and D exchanged, with pins that are no fields", sizes(2, 4), 2, 1, api.ErrNone},
		{"a height below 0", height(3, -1), 1, 3, api.ErrRange},
		{"a height too great", height(7, 501), 1, 7, api.ErrRange},
		{"the least int as height", height(6, small), 1, 6, api.ErrRange},
		{"the greatest int as height", height(5, big), 1, 5, api.ErrRange},
		{"the least height", height(1, 0), 0, 0, api.OK},
		{"the greatest height", height(1, 500), 0, 0, api.OK},
		{"the first height decides", all(height(4, 501), height(2, -1)), 1, 2, api.ErrRange},
		{"a W of 0, and all else wrong", all(wrong, sizes(0, 2)), 1, 0, api.ErrRange},
		{"no heights, and all else wrong", all(wrong, heights(0)), 1, 0, api.ErrLong},
		{"a height too great, and all else wrong", all(wrong, height(7, 501)), 1, 7, api.ErrRange},
		{"a height too great, and too many pins and stands", all(pins(make([]api.PnPin, 7)...), stands(make([]api.PnStand, 6)...), height(7, 501)), 1, 7, api.ErrRange},
	}
}

// pinFaults are those of pins.
func pinFaults() []fault {
	seven := make([]api.PnPin, 7)
	var six []api.PnPin
	for i, n := range names() {
		six = append(six, stick(n, i%4, i/4, 0, 0))
	}
	return []fault{
		{"no pins", pins(), 0, 0, api.OK},
		{"six pins", pins(six...), 0, 0, api.OK},
		{"seven pins, all wrong", pins(seven...), 2, 0, api.ErrLong},
		{"six pins, all wrong", pins(seven[:6]...), 2, 0, api.ErrForm},
		{"no name", name(1, ""), 2, 1, api.ErrForm},
		{"a name with a great letter", name(2, "Ash"), 2, 2, api.ErrForm},
		{"a name that begins with a digit", name(0, "1oak"), 2, 0, api.ErrForm},
		{"a name of 17 bytes", name(0, strings.Repeat("a", 17)), 2, 0, api.ErrForm},
		{"a name of 16 bytes", name(0, strings.Repeat("a", 16)), 0, 0, api.OK},
		{"a name with a digit and a dash", name(0, "o-1"), 0, 0, api.OK},
		{"a name of letters that are none", name(0, "öak"), 2, 0, api.ErrForm},
		{"the same name twice", name(2, "oak"), 2, 2, api.ErrTwice},
		{"the same name that is none twice", all(name(1, ""), name(2, "")), 2, 1, api.ErrForm},
		{"an X below 0", at(0, -1, 0), 2, 0, api.ErrNone},
		{"a Y below 0", at(0, 0, -1), 2, 0, api.ErrNone},
		{"an X too great", at(1, 4, 0), 2, 1, api.ErrNone},
		{"a Y too great", at(1, 2, 2), 2, 1, api.ErrNone},
		{"the last field", at(1, 3, 1), 0, 0, api.OK},
		{"X and Y exchanged", at(1, 1, 3), 2, 1, api.ErrNone},
		{"any int as X", at(2, big, 0), 2, 2, api.ErrNone},
		{"any int as Y", at(2, 0, small), 2, 2, api.ErrNone},
		{"the number of a field, but no field", at(2, 5, 0), 2, 2, api.ErrNone},
		{"on the field of another pin", at(2, 0, 0), 2, 2, api.ErrArg},
		{"on the field of the pin before", at(1, 0, 0), 2, 1, api.ErrArg},
		{"in the row of another pin", at(2, 1, 0), 0, 0, api.OK},
		{"in the column of another pin", at(2, 0, 1), 0, 0, api.OK},
		{"a Length below 0", length(0, -1, 10), 2, 0, api.ErrRange},
		{"a Length too great", length(0, 301, 301), 2, 0, api.ErrRange},
		{"the least int as Length", length(0, small, 10), 2, 0, api.ErrRange},
		{"the greatest int as Length", length(0, big, big), 2, 0, api.ErrRange},
		{"a Most below Length", length(1, 10, 9), 2, 1, api.ErrRange},
		{"a Most below 0", length(1, 0, -1), 2, 1, api.ErrRange},
		{"a Most too great", length(1, 10, 301), 2, 1, api.ErrRange},
		{"the least int as Most", length(1, 10, small), 2, 1, api.ErrRange},
		{"the greatest int as Most", length(1, 10, big), 2, 1, api.ErrRange},
		{"a Length that is Most", length(1, 10, 10), 0, 0, api.OK},
		{"the greatest Length", length(2, 300, 300), 0, 0, api.OK},
		{"the least Length, the greatest Most", length(2, 0, 300), 0, 0, api.OK},
		{"no name before all else", all(name(2, ""), at(2, 9, 9), length(2, -1, 5)), 2, 2, api.ErrForm},
		{"the same name before all else", all(name(2, "elm"), at(2, 9, 9), length(2, -1, 5)), 2, 2, api.ErrTwice},
		{"no field before a Length", all(at(2, 9, 9), length(2, -1, 5)), 2, 2, api.ErrNone},
		{"a field with a pin before a Length", all(at(2, 2, 0), length(2, -1, 5)), 2, 2, api.ErrArg},
		{"the first pin decides", all(length(0, 5, 4), name(1, ""), at(2, 9, 9)), 2, 0, api.ErrRange},
		{"the first of two pins decides", all(at(1, 0, 0), name(2, "")), 2, 1, api.ErrArg},
		{"too many pins come before stands", all(pins(seven...), eyes(0, 2, 1)), 2, 0, api.ErrLong},
		{"pins come before stands", all(length(2, 5, 4), eyes(0, 2001, 1)), 2, 2, api.ErrRange},
		{"pins come before too many stands", all(length(2, 5, 4), stands(make([]api.PnStand, 6)...)), 2, 2, api.ErrRange},
	}
}

// standFaults are those of stands.
func standFaults() []fault {
	one := stand(-1, 0, 0, 0)
	return []fault{
		{"no stands", stands(), 0, 0, api.OK},
		{"five stands at the same place", stands(one, one, one, one, one), 0, 0, api.OK},
		{"six stands, all wrong", stands(make([]api.PnStand, 6)...), 3, 0, api.ErrLong},
		{"five stands, all wrong", stands(make([]api.PnStand, 5)...), 3, 0, api.ErrNone},
		{"an X too low", place(-21, 0), 3, 0, api.ErrRange},
		{"an X too great", place(21, 0), 3, 0, api.ErrRange},
		{"a Y too low", place(0, -21), 3, 0, api.ErrRange},
		{"a Y too great", place(0, 21), 3, 0, api.ErrRange},
		{"any int as X", place(small, 0), 3, 0, api.ErrRange},
		{"any int as Y", place(-1, big), 3, 0, api.ErrRange},
		{"the least X", place(-20, 0), 0, 0, api.OK},
		{"the greatest X", place(20, 0), 0, 0, api.OK},
		{"the least Y", place(0, -20), 0, 0, api.OK},
		{"the greatest Y", place(0, 20), 0, 0, api.OK},
		{"a corner", place(-20, 20), 0, 0, api.OK},
		{"the first field", place(0, 0), 3, 0, api.ErrNone},
		{"the last field", place(3, 1), 3, 0, api.ErrNone},
		{"a field with a pin", place(2, 0), 3, 0, api.ErrNone},
		{"just left of a field", place(-1, 1), 0, 0, api.OK},
		{"just right of a field", place(4, 1), 0, 0, api.OK},
		{"just above a field", place(3, -1), 0, 0, api.OK},
		{"just below a field", place(3, 2), 0, 0, api.OK},
		{"an Eye below 0", eyes(0, -1, 5), 3, 0, api.ErrRange},
		{"an Eye whose Hi is below 0", eyes(0, 0, -1), 3, 0, api.ErrRange},
		{"an Eye too great", eyes(0, 2000, 2001), 3, 0, api.ErrRange},
		{"an Eye whose Lo is too great", eyes(0, 2001, 2000), 3, 0, api.ErrRange},
		{"an Eye of any int", eyes(0, small, big), 3, 0, api.ErrRange},
		{"an Eye of any int, turned", eyes(0, big, small), 3, 0, api.ErrRange},
		{"an Eye with Lo above Hi", eyes(0, 31, 30), 3, 0, api.ErrArg},
		{"an Eye far turned", eyes(0, 2000, 0), 3, 0, api.ErrArg},
		{"the widest Eye", eyes(0, 0, 2000), 0, 0, api.OK},
		{"an Eye of one height", eyes(0, 30, 30), 0, 0, api.OK},
		{"an Eye too great before a field", all(place(1, 1), eyes(0, 30, 2001)), 3, 0, api.ErrRange},
		{"a field before an Eye with Lo above Hi", all(place(1, 1), eyes(0, 31, 30)), 3, 0, api.ErrNone},
		{"an X too great before an Eye with Lo above Hi", all(place(21, 1), eyes(0, 31, 30)), 3, 0, api.ErrRange},
		{"the first stand decides", stands(one, stand(9, 9, 2, 1), stand(99, 0, 0, 0)), 3, 1, api.ErrArg},
		{"the last stand", stands(one, one, one, one, stand(1, 0, 0, 0)), 3, 4, api.ErrNone},
	}
}

// P10.1: each part, the order of errors, and that all other functions return the error first.
func TestCheck(t *testing.T) {
	for _, f := range slices.Concat(groundFaults(), pinFaults(), standFaults()) {
		m := clone(sample())
		f.change(&m)
		part, at, e := pin.Check(m)
		if part != f.part || at != f.at || e != f.e {
			t.Errorf("%s: Check = %d, %d, %d, not %d, %d, %d", f.what, part, at, e, f.part, f.at, f.e)
		}
		if f.e != api.OK {
			checkErrors(t, f.what, m, f.e)
		}
	}
}

// checkErrors checks that each function but Check returns an error before its own ones, and nothing else with it.
func checkErrors(t *testing.T, what string, m api.PnModel, e api.Errno) {
	t.Helper()
	for _, odd := range []int{0, -1, 9, big, small} {
		for _, other := range []int{0, -1} {
			checkHidden(t, what, m, odd, 30, other, nil, e)
			checkHidden(t, what, m, other, odd, other, nil, e)
			checkEye(t, what, m, odd, other, 0, e)
			checkEye(t, what, m, other, odd, 0, e)
		}
		checkSeen(t, what, m, odd, nil, nil, e)
		checkBest(t, what, m, odd, 0, 0, nil, e)
	}
	checkLengths(t, what, m, nil, e)
	checkStuck(t, what, m, 0, 0, 0, 0, e)
	checkFewest(t, what, m, nil, e)
	checkOff(t, what, m, nil, e)
}

func checkHidden(t *testing.T, what string, m api.PnModel, stand, eye, p int, want []int, e api.Errno) {
	t.Helper()
	if got, f := pin.Hidden(m, stand, eye, p); !slices.Equal(got, want) || f != e {
		t.Errorf("%s: Hidden of %v, %d, %d, %d = %v, %d, not %v, %d", what, m, stand, eye, p, got, f, want, e)
	}
}

func checkSeen(t *testing.T, what string, m api.PnModel, stand int, sure, may []int, e api.Errno) {
	t.Helper()
	if a, b, f := pin.Seen(m, stand); !slices.Equal(a, sure) || !slices.Equal(b, may) || f != e {
		t.Errorf("%s: Seen of %v, %d = %v, %v, %d, not %v, %v, %d", what, m, stand, a, b, f, sure, may, e)
	}
}

func checkEye(t *testing.T, what string, m api.PnModel, stand, p, want int, e api.Errno) {
	t.Helper()
	if got, f := pin.Eye(m, stand, p); got != want || f != e {
		t.Errorf("%s: Eye of %v, %d, %d = %d, %d, not %d, %d", what, m, stand, p, got, f, want, e)
	}
}

func checkLengths(t *testing.T, what string, m api.PnModel, want []int, e api.Errno) {
	t.Helper()
	if got, f := pin.Lengths(m); !slices.Equal(got, want) || f != e {
		t.Errorf("%s: Lengths of %v = %v, %d, not %v, %d", what, m, got, f, want, e)
	}
}

func checkStuck(t *testing.T, what string, m api.PnModel, round, p, stand, field int, e api.Errno) {
	t.Helper()
	if a, b, c, d, f := pin.Stuck(m); a != round || b != p || c != stand || d != field || f != e {
		t.Errorf("%s: Stuck of %v = %d, %d, %d, %d, %d, not %d, %d, %d, %d, %d", what, m, a, b, c, d, f, round, p, stand, field, e)
	}
}

func checkBest(t *testing.T, what string, m api.PnModel, eye, x, y int, seen []int, e api.Errno) {
	t.Helper()
	if a, b, got, f := pin.Best(m, eye); a != x || b != y || !slices.Equal(got, seen) || f != e {
		t.Errorf("%s: Best of %v, %d = %d, %d, %v, %d, not %d, %d, %v, %d", what, m, eye, a, b, got, f, x, y, seen, e)
	}
}

func checkFewest(t *testing.T, what string, m api.PnModel, want []int, e api.Errno) {
	t.Helper()
	if got, f := pin.Fewest(m); !slices.Equal(got, want) || f != e {
		t.Errorf("%s: Fewest of %v = %v, %d, not %v, %d", what, m, got, f, want, e)
	}
}

func checkOff(t *testing.T, what string, m api.PnModel, want []int, e api.Errno) {
	t.Helper()
	if got, f := pin.Off(m); !slices.Equal(got, want) || f != e {
		t.Errorf("%s: Off of %v = %v, %d, not %v, %d", what, m, got, f, want, e)
	}
}

// The examples of the chapter.
func TestExamples(t *testing.T) {
	m := sample()
	checkHidden(t, "M", m, 0, 30, 1, []int{0}, api.OK)
	checkHidden(t, "M", m, 0, 100, 1, nil, api.OK)
	checkHidden(t, "M", m, 0, 30, 2, []int{0, 2}, api.OK)
	checkSeen(t, "M", m, 0, []int{0}, []int{0, 1, 2}, api.OK)
	for p, least := range []int{0, 35, 34} {
		checkEye(t, "M", m, 0, p, least, api.OK)
	}
	checkLengths(t, "M", m, []int{30, 31, 12}, api.OK)
	checkStuck(t, "M", m, 0, 0, 0, 0, api.ErrNone)
	checkBest(t, "M", m, 30, -1, -1, []int{0, 1, 2}, api.OK)
	checkOff(t, "M", m, []int{0, 1}, api.OK)
	checkFewest(t, "M", m, nil, api.ErrDown)
	m.Pins[2].Most = 11
	checkLengths(t, "M with a shorter ash", m, nil, api.ErrDown)
	checkStuck(t, "M with a shorter ash", m, 2, 2, 0, 2, api.OK)
}

// P10.2, P10.3, P10.5: what arguments are not accepted, in the order of errors.
func TestArgumentErrors(t *testing.T) {
	m := sample()
	for _, o := range []struct {
		what            string
		stand, eye, pin int
		e               api.Errno
	}{
		{"no stand", -1, 30, 0, api.ErrNone},
		{"a stand too great", 1, 30, 0, api.ErrNone},
		{"no pin", 0, 30, -1, api.ErrNone},
		{"a pin too great", 0, 30, 3, api.ErrNone},
		{"the least int as stand", small, 30, 0, api.ErrNone},
		{"the greatest int as pin", 0, 30, big, api.ErrNone},
		{"an eye below 0", 0, -1, 0, api.ErrRange},
		{"an eye too great", 0, 2001, 0, api.ErrRange},
		{"the least int as eye", 0, small, 0, api.ErrRange},
		{"the greatest int as eye", 0, big, 0, api.ErrRange},
		{"no stand before an eye", 1, 2001, 0, api.ErrNone},
		{"no pin before an eye", 0, -1, 3, api.ErrNone},
	} {
		checkHidden(t, o.what, m, o.stand, o.eye, o.pin, nil, o.e)
		if o.e == api.ErrNone {
			checkEye(t, o.what, m, o.stand, o.pin, 0, o.e)
		} else {
			checkBest(t, o.what, m, o.eye, 0, 0, nil, o.e)
		}
		if o.stand != 0 {
			checkSeen(t, o.what, m, o.stand, nil, nil, o.e)
		}
	}
	checkHidden(t, "the least eye", m, 0, 0, 1, []int{0}, api.OK)
	checkHidden(t, "the greatest eye", m, 0, 2000, 1, nil, api.OK)
	checkBest(t, "the greatest eye", m, 2000, -1, -1, []int{0, 1, 2}, api.OK)
	m.Stands = nil
	checkHidden(t, "no stands", m, 0, 30, 0, nil, api.ErrNone)
	checkSeen(t, "no stands", m, 0, nil, nil, api.ErrNone)
	checkEye(t, "no stands", m, 0, 0, 0, api.ErrNone)
	m = sample()
	m.Pins = nil
	checkHidden(t, "no pins", m, 0, 30, 0, nil, api.ErrNone)
	checkEye(t, "no pins", m, 0, 0, 0, api.ErrNone)
	checkSeen(t, "no pins", m, 0, nil, nil, api.OK)
	checkBest(t, "no pins", m, 30, -1, -1, nil, api.OK)
}

// ground is a model of 5 times 4 fields, with a height at some fields, a pin at each X and Y, 10 long, and a stand.
func ground(s api.PnStand, high map[int]int, fields ...int) api.PnModel {
	m := api.PnModel{W: 5, D: 4, Heights: make([]int, 20), Stands: []api.PnStand{s}}
	for field, h := range high {
		m.Heights[field] = h
	}
	for i, field := range fields {
		m.Pins = append(m.Pins, stick(names()[i], field%5, field/5, 10, 300))
	}
	return m
}

// P10.2: by hand.
func TestHiddenByHand(t *testing.T) {
	for _, o := range []struct {
		what      string
		x, y, eye int
		high      map[int]int
		pins      []int
		want      []int
	}{
		{"nothing is between neighbours", -1, 0, 0, map[int]int{5: 500, 1: 500}, []int{0}, nil},
		{"flat ground, eyes as high as the head", -1, 0, 10, nil, []int{4}, nil},
		{"ground just as high as the line", -1, 0, 10, map[int]int{2: 10}, []int{4}, []int{2}},
		{"ground just below the line", -1, 0, 10, map[int]int{2: 9}, []int{4}, nil},
		{"the nearest first", -1, 0, 10, map[int]int{3: 99, 1: 10, 0: 11}, []int{4}, []int{0, 1, 3}},
		{"the nearest first, from the other side", 5, 0, 10, map[int]int{3: 99, 1: 10, 4: 11}, []int{0}, []int{4, 3, 1}},
		{"a line that falls, just as high", -1, 0, 15, map[int]int{0: 14, 1: 13, 2: 12, 3: 11}, []int{4}, []int{0, 1, 2, 3}},
		{"a line that falls, just below", -1, 0, 15, map[int]int{0: 13, 1: 12, 2: 11, 3: 10}, []int{4}, nil},
		{"a line that rises, just as high", -1, 0, 5, map[int]int{0: 6, 1: 7, 2: 8, 3: 9}, []int{4}, []int{0, 1, 2, 3}},
		{"a line that rises, just below", -1, 0, 5, map[int]int{0: 5, 1: 6, 2: 7, 3: 8}, []int{4}, nil},
		{"a line between whole heights", -1, 0, 12, map[int]int{0: 12, 1: 11, 2: 11, 3: 11}, []int{4}, []int{0, 2, 3}},
		{"the pin's own ground", -1, 0, 10, map[int]int{4: 20, 2: 22}, []int{4}, []int{2}},
		{"beyond the pin", -1, 0, 10, map[int]int{3: 500, 4: 500}, []int{2}, nil},
		{"beside the line", -1, 0, 10, map[int]int{5: 500, 6: 500, 7: 500}, []int{4}, nil},
		{"another pin", -1, 0, 10, nil, []int{4, 2}, []int{2}},
		{"another pin on lower ground", -1, 0, 10, map[int]int{4: 1}, []int{4, 2}, nil},
		{"another pin and its ground", -1, 0, 15, map[int]int{1: 3}, []int{4, 1}, []int{1}},
		{"a column", 2, -1, 10, map[int]int{2: 10, 7: 9, 12: 10}, []int{17}, []int{2, 12}},
		{"a column from below", 2, 4, 10, map[int]int{17: 10, 7: 9, 12: 10}, []int{2}, []int{17, 12}},
		{"a diagonal", -1, -1, 10, map[int]int{0: 10, 6: 10, 12: 9, 1: 500, 5: 500}, []int{18}, []int{0, 6}},
		{"a diagonal that falls in X", 4, -1, 10, map[int]int{3: 10, 7: 9, 11: 10, 8: 500}, []int{15}, []int{3, 11}},
		{"steps of 2 and 1", -2, 0, 10, map[int]int{0: 500, 5: 10, 6: 500, 7: 500, 11: 500, 2: 500}, []int{12}, []int{5}},
		{"steps of 2 and 1, from the other side", 6, 0, 10, map[int]int{9: 10, 8: 500, 4: 500, 3: 500}, []int{12}, []int{9}},
		{"steps of 1 and 2", 1, 4, 10, map[int]int{12: 11, 11: 500, 7: 500, 16: 500, 17: 500}, []int{3}, []int{12}},
		{"no whole point between", -1, 2, 0, map[int]int{0: 500, 1: 500, 5: 500, 6: 500, 7: 500, 10: 500, 11: 500, 12: 500, 2: 500, 3: 500}, []int{8}, nil},
		{"from far away", -20, 0, 10, map[int]int{0: 10, 1: 9, 3: 10}, []int{4}, []int{0, 3}},
		{"far away, the line falls by less than 1 on all the model", -20, 0, 34, map[int]int{0: 14, 1: 13, 2: 12, 3: 11}, []int{4}, []int{0, 1, 2, 3}},
		{"past a corner", -1, 1, 0, map[int]int{0: 500, 5: 500, 1: 500}, []int{0}, nil},
	} {
		checkHidden(t, o.what, ground(stand(o.x, o.y, 0, 0), o.high, o.pins...), 0, o.eye, 0, o.want, api.OK)
	}
}

// P10.2: that of several stands and pins the right ones are told.
func TestHiddenOfSeveral(t *testing.T) {
	m := ground(stand(-1, 0, 10, 10), map[int]int{2: 50}, 4, 0, 9)
	m.Stands = append(m.Stands, stand(5, 0, 0, 200), stand(4, 5, 10, 11))
	checkHidden(t, "oak from the left", m, 0, 10, 0, []int{0, 2}, api.OK)
	checkHidden(t, "elm from the left", m, 0, 10, 1, nil, api.OK)
	checkHidden(t, "oak from the right", m, 1, 10, 0, nil, api.OK)
	checkHidden(t, "elm from the right", m, 1, 10, 1, []int{4, 2}, api.OK)
	checkHidden(t, "oak from below", m, 2, 10, 0, []int{9}, api.OK)
	checkHidden(t, "ash from below", m, 2, 10, 2, nil, api.OK)
	checkSeen(t, "from the left", m, 0, []int{1, 2}, []int{1, 2}, api.OK)
	checkSeen(t, "from the right", m, 1, []int{0, 2}, []int{0, 1, 2}, api.OK)
	checkSeen(t, "from below", m, 2, []int{1, 2}, []int{0, 1, 2}, api.OK)
}

// P10.2: against all fields of the model.
func TestHiddenSeen(t *testing.T) {
	d := dice(1)
	many, counts, differ := 0, [5]int{}, 0
	for range 6000 {
		m := d.sort(d.any, d.walls)
		for i, s := range m.Stands {
			sure, may := surely(m, i), seenFrom(m, s.X, s.Y, s.Eye.Hi)
			checkSeen(t, "a model", m, i, sure, may, api.OK)
			if len(sure) < len(may) {
				differ++
			}
			for p := range m.Pins {
				eye := d.from(0, d.one(0, 50, 300, 2000))
				want := hidden(m, s.X, s.Y, eye, p)
				checkHidden(t, "a model", m, i, eye, p, want, api.OK)
				counts[min(len(want), 4)]++
				many++
			}
		}
	}
	if many < 10000 || slices.Min(counts[:]) < 300 || differ < 500 {
		t.Errorf("%d lines, %v by fields that hide, %d stands that differ: too few for a test", many, counts, differ)
	}
}

// P10.3: by hand.
func TestEyeByHand(t *testing.T) {
	for _, o := range []struct {
		what string
		x, y int
		high map[int]int
		pins []int
		want int
		e    api.Errno
	}{
		{"flat ground", -1, 0, nil, []int{4}, 0, api.OK},
		{"nothing between", -1, 0, nil, []int{0}, 0, api.OK},
		{"a field at half the way", -1, 0, map[int]int{1: 10}, []int{3}, 11, api.OK},
		{"a field at half the way, half as high as the head", -1, 0, map[int]int{1: 5}, []int{3}, 1, api.OK},
		{"a field at half the way, less than half as high", -1, 0, map[int]int{1: 4}, []int{3}, 0, api.OK},
		{"the line is between whole heights", -1, 0, map[int]int{2: 11}, []int{4}, 13, api.OK},
		{"the line is between whole heights, and a field is nearer", -1, 0, map[int]int{0: 11}, []int{4}, 12, api.OK},
		{"the highest of several fields does not decide", -1, 0, map[int]int{0: 40, 3: 30}, []int{4}, 111, api.OK},
		{"the pin is on high ground", -1, 0, map[int]int{3: 407, 4: 499}, []int{4}, 0, api.OK},
		{"the pin is on ground not quite as high", -1, 0, map[int]int{3: 407, 4: 498}, []int{4}, 4, api.OK},
		{"high ground just before the pin", 0, -1, map[int]int{10: 500}, []int{15}, 1971, api.OK},
		{"eyes that are just possible", -1, 0, map[int]int{3: 407}, []int{4}, 1996, api.OK},
		{"eyes that are too high", -1, 0, map[int]int{3: 410}, []int{4}, 0, api.ErrDown},
	} {
		checkEye(t, o.what, ground(stand(o.x, o.y, 0, 0), o.high, o.pins...), 0, 0, o.want, o.e)
	}
	// A line of two steps: eyes have to be more than twice the field's top, less that of the pin.
	m := api.PnModel{W: 2, D: 1, Heights: []int{500, 0}, Pins: []api.PnPin{stick("oak", 0, 0, 250, 250), stick("elm", 1, 0, 0, 0)}, Stands: []api.PnStand{stand(-1, 0, 0, 0)}}
	checkEye(t, "1501", m, 0, 1, 1501, api.OK)
	m.Stands[0].X = -2
	m.Heights[0] = 416
	checkEye(t, "1999", m, 0, 1, 1999, api.OK)
	m.Heights[1] = 1
	m.Pins[0].Length, m.Pins[0].Most = 251, 251
	checkEye(t, "2000", m, 0, 1, 2000, api.OK)
	m.Heights[1] = 0
	checkEye(t, "2002", m, 0, 1, 0, api.ErrDown)
}

// P10.3: against all heights of eyes.
func TestEye(t *testing.T) {
	d := dice(2)
	down, none, some := 0, 0, 0
	for range 2000 {
		m := d.any()
		for i := range m.Stands {
			for p := range m.Pins {
				switch want := leastEye(m, i, p); {
				case want < 0:
					checkEye(t, "a model", m, i, p, 0, api.ErrDown)
					down++
				case want == 0:
					checkEye(t, "a model", m, i, p, 0, api.OK)
					none++
				default:
					checkEye(t, "a model", m, i, p, want, api.OK)
					some++
				}
			}
		}
	}
	if down < 50 || none < 500 || some < 500 {
		t.Errorf("%d that are never seen, %d with any eyes, %d with some: too few for a test", down, none, some)
	}
}

// P10.4: by hand.
func TestLengthsByHand(t *testing.T) {
	left, right := stand(-1, 0, 10, 10), stand(5, 0, 10, 10)
	m := ground(left, nil, 4)
	checkLengths(t, "seen", m, []int{10}, api.OK)
	checkStuck(t, "seen", m, 0, 0, 0, 0, api.ErrNone)
	m = ground(left, map[int]int{1: 10}, 4)
	checkLengths(t, "ground", m, []int{11}, api.OK)
	m.Pins[0].Most = 10
	checkLengths(t, "ground, and no longer pin", m, nil, api.ErrDown)
	checkStuck(t, "ground, and no longer pin", m, 1, 0, 0, 1, api.OK)
	m = ground(left, map[int]int{0: 20}, 4)
	checkLengths(t, "near ground", m, []int{61}, api.OK)
	m.Pins[0].Most = 60
	checkStuck(t, "near ground", m, 1, 0, 0, 0, api.OK)
	m.Pins[0].Most = 61
	checkLengths(t, "just as long", m, []int{61}, api.OK)
	checkStuck(t, "just as long", m, 0, 0, 0, 0, api.ErrNone)
	m = ground(left, map[int]int{0: 20, 2: 50, 3: 60}, 4)
	m.Pins[0].Most = 72
	checkStuck(t, "the nearest of two", m, 1, 0, 0, 2, api.OK)
	m.Pins[0].Most = 77
	checkLengths(t, "the higher of two", m, []int{77}, api.OK)
	m.Stands = nil
	m.Pins[0].Length, m.Pins[0].Most = 0, 0
	checkLengths(t, "no stands", m, []int{0}, api.OK)
	checkStuck(t, "no stands", m, 0, 0, 0, 0, api.ErrNone)
	m.Pins = nil
	checkLengths(t, "no stands, no pins", m, nil, api.OK)
	m.Stands = []api.PnStand{left}
	checkLengths(t, "no pins", m, nil, api.OK)
	checkStuck(t, "no pins", m, 0, 0, 0, 0, api.ErrNone)
	m = ground(left, nil, 3, 1)
	checkLengths(t, "one hides the other", m, []int{11, 10}, api.OK)
	m.Stands = append(m.Stands, right)
	m.Pins[0].Most, m.Pins[1].Most = 17, 13
	checkLengths(t, "both hide each other, from two sides", m, nil, api.ErrDown)
	checkStuck(t, "both hide each other, from two sides", m, 3, 1, 1, 3, api.OK)
	m.Pins[0].Most, m.Pins[1].Most = 13, 14
	checkStuck(t, "the other one is first", m, 3, 0, 0, 1, api.OK)
	m.Pins[0].Most, m.Pins[1].Most = 12, 12
	checkStuck(t, "both at once", m, 2, 0, 0, 1, api.OK)
}

// P10.4: against the rounds, in which pins become longer by 1.
func TestLengthsStuck(t *testing.T) {
	d := dice(3)
	ends, stuck := [5]int{}, [4]int{}
	for range 12000 {
		m := d.flat()
		o := rounds(m)
		if !o.stuck {
			checkLengths(t, "a model", m, o.last(), api.OK)
			checkStuck(t, "a model", m, 0, 0, 0, 0, api.ErrNone)
			ends[min(o.round, 4)]++
			continue
		}
		checkLengths(t, "a model that is stuck", m, nil, api.ErrDown)
		checkStuck(t, "a model that is stuck", m, o.round, o.pin, o.stand, o.height, api.OK)
		stuck[min(o.round, 3)]++
	}
	if slices.Min(ends[1:]) < 30 || slices.Min(stuck[1:]) < 30 {
		t.Errorf("%v by rounds, %v stuck: too few for a test", ends, stuck)
	}
}

// slope is a model of 3 times 3 fields with a pin on each field of the last row. All other fields are too high to look over,
// but some. From a place above the first row each pin is 3 steps away in Y, and just one of them 0 or 3 in X, too; from a
// place beside the first row each is 2 steps away in Y, and just the middle one 2 in X: no others can be hidden.
func slope(low ...int) api.PnModel {
	m := api.PnModel{W: 3, D: 3, Heights: []int{99, 99, 99, 99, 99, 99, 0, 0, 0}}
	for x := range 3 {
		m.Pins = append(m.Pins, stick(names()[x], x, 2, 10, 10))
	}
	for _, field := range low {
		m.Heights[field] = 0
	}
	return m
}

// P10.5: by hand.
func TestBestByHand(t *testing.T) {
	for _, o := range []struct {
		what string
		low  []int
		x, y int
	}{
		{"beside the second row", nil, -1, 1},
		{"the first place of all", []int{0, 4}, -1, -1},
		{"above the first column", []int{0, 3}, 0, -1},
		{"above the second column", []int{1, 4}, 1, -1},
		{"above the third column", []int{2, 5}, 2, -1},
		{"above, to the right", []int{2, 4}, 3, -1},
		{"beside the first row", []int{3}, -1, 0},
		{"beside the first row, to the right", []int{5}, 3, 0},
		{"the least X of several with the least Y", []int{1, 2, 4}, 1, -1},
		{"the least X of two", []int{3, 5}, -1, 0},
		{"the least Y before the least X", []int{2, 3, 5}, 2, -1},
		{"one of two fields is too high", []int{0, 1, 2}, -1, 1},
	} {
		checkBest(t, o.what, slope(o.low...), 30, o.x, o.y, []int{0, 1, 2}, api.OK)
	}
	m := slope(3)
	m.Heights[3] = 15
	checkBest(t, "eyes not high enough", m, 20, -1, 1, []int{0, 1, 2}, api.OK)
	checkBest(t, "eyes high enough", m, 21, -1, 0, []int{0, 1, 2}, api.OK)
	m.Stands = []api.PnStand{stand(9, 9, 0, 0)}
	checkBest(t, "stands do not count", m, 21, -1, 0, []int{0, 1, 2}, api.OK)
	m.Pins = []api.PnPin{stick("oak", 2, 2, 10, 300)}
	checkBest(t, "one pin, hidden from the first place", m, 30, 0, -1, []int{0}, api.OK)
	m.Pins = nil
	checkBest(t, "no pins", m, 30, -1, -1, nil, api.OK)
	one := api.PnModel{W: 1, D: 1, Heights: []int{500}, Pins: []api.PnPin{stick("oak", 0, 0, 0, 0)}}
	checkBest(t, "one field", one, 0, -1, -1, []int{0}, api.OK)
}

// P10.5: against all places.
func TestBest(t *testing.T) {
	d := dice(4)
	some := 0
	for range 6000 {
		m, eye := d.hill(8, 6, 0, 300, 20, 0), d.from(0, 100)
		var want []int
		bestX, bestY := -1, -1
		for x, y := range beside(m) {
			if pins := seenFrom(m, x, y, eye); len(pins) > len(want) {
				bestX, bestY, want = x, y, pins
			}
		}
		checkBest(t, "a model", m, eye, bestX, bestY, want, api.OK)
		if len(want) < len(m.Pins) {
			some++
		}
	}
	if some < 100 {
		t.Errorf("%d models not all pins of which are seen: too few for a test", some)
	}
}

// P10.6: by hand. From the left and the right a row of pins is looked at along it, from above across.
func TestFewestByHand(t *testing.T) {
	left, right, above, far := stand(-1, 0, 10, 10), stand(5, 0, 10, 10), stand(2, -1, 10, 10), stand(4, -2, 10, 10)
	tall := stand(-1, 0, 300, 300)
	for _, o := range []struct {
		what   string
		fields []int
		stands []api.PnStand
		want   []int
		e      api.Errno
	}{
		{"no pins, no stands", nil, nil, nil, api.OK},
		{"no pins", nil, []api.PnStand{left, right}, nil, api.OK},
		{"no stands", []int{1}, nil, nil, api.ErrDown},
		{"one pin, one stand", []int{1}, []api.PnStand{left}, []int{0}, api.OK},
		{"one pin, several stands", []int{1}, []api.PnStand{left, right, above}, []int{0}, api.OK},
		{"a pin that is not seen", []int{1, 3}, []api.PnStand{left}, nil, api.ErrDown},
		{"a pin that is not seen from several stands", []int{1, 2, 3}, []api.PnStand{left, right, left, right}, nil, api.ErrDown},
		{"two stands", []int{1, 3}, []api.PnStand{left, right}, []int{0, 1}, api.OK},
		{"two stands of three", []int{1, 3}, []api.PnStand{left, left, right}, []int{0, 2}, api.OK},
		{"the first two stands of five", []int{3, 1}, []api.PnStand{right, right, left, right, left}, []int{0, 2}, api.OK},
		{"one stand before two", []int{1, 3}, []api.PnStand{left, right, above}, []int{2}, api.OK},
		{"the first one stand", []int{1, 3}, []api.PnStand{left, tall, above}, []int{1}, api.OK},
		{"three pins, two stands", []int{1, 2, 3}, []api.PnStand{left, right, above}, []int{2}, api.OK},
		{"a stand that sees all comes first", []int{1, 2, 3}, []api.PnStand{far, left, right}, []int{0}, api.OK},
	} {
		m := ground(above, nil, o.fields...)
		m.Stands = o.stands
		checkFewest(t, o.what, m, o.want, o.e)
	}
	// From the corner just the pin in the middle is seen.
	m, corner := ground(above, map[int]int{14: 500, 19: 500}, 1, 2, 3), stand(5, 4, 10, 10)
	m.Stands = []api.PnStand{corner, left, right}
	checkFewest(t, "three stands", m, []int{0, 1, 2}, api.OK)
	m.Stands = []api.PnStand{right, left, left, corner, corner}
	checkFewest(t, "three stands of five", m, []int{0, 1, 3}, api.OK)
	m.Stands[4] = above
	checkFewest(t, "one stand before three", m, []int{4}, api.OK)
	m = ground(stand(-1, 0, 10, 300), nil, 1, 3)
	checkFewest(t, "perhaps is not surely", m, nil, api.ErrDown)
}

// P10.6: by hand.
func TestOffByHand(t *testing.T) {
	left, right := stand(-1, 0, 10, 10), stand(5, 0, 10, 10)
	for _, o := range []struct {
		what   string
		high   map[int]int
		fields []int
		stands []api.PnStand
		want   []int
	}{
		{"no pins", nil, nil, []api.PnStand{left}, nil},
		{"no stands", map[int]int{0: 500, 1: 500, 2: 500}, []int{4, 2}, nil, nil},
		{"all are seen", nil, []int{1, 6, 11}, []api.PnStand{left, right}, nil},
		{"one of two", nil, []int{1, 3}, []api.PnStand{left}, []int{0}},
		{"one of two, turned", nil, []int{3, 1}, []api.PnStand{left}, []int{0}},
		{"the one that ground hides, too", map[int]int{2: 50}, []int{1, 3}, []api.PnStand{left}, []int{1}},
		{"ground alone", map[int]int{2: 50}, []int{3}, []api.PnStand{left}, []int{0}},
		{"two of three", nil, []int{0, 2, 4}, []api.PnStand{left, right}, []int{0, 1}},
		{"two of three, turned", nil, []int{4, 2, 0}, []api.PnStand{left}, []int{0, 1}},
		{"one that hides two others", nil, []int{4, 1, 9, 6}, []api.PnStand{left, stand(-1, 1, 10, 10)}, []int{0, 2}},
		{"one that two stands see behind others", nil, []int{12, 11, 7}, []api.PnStand{stand(-1, 2, 10, 10), stand(2, -1, 10, 10)}, []int{0}},
		{"one that is before two others", nil, []int{7, 17, 9, 11}, []api.PnStand{stand(2, -1, 10, 10), stand(-1, 1, 10, 10)}, []int{0}},
		{"all", map[int]int{0: 500, 2: 500, 5: 500}, []int{3, 6, 9}, []api.PnStand{left, stand(-1, 1, 10, 10)}, []int{0, 1, 2}},
		{"the field of a pin that is taken off", map[int]int{1: 20}, []int{1, 3}, []api.PnStand{left}, []int{1}},
	} {
		m := ground(left, o.high, o.fields...)
		m.Stands = o.stands
		checkOff(t, o.what, m, o.want, api.OK)
	}
	m := ground(stand(-1, 0, 10, 300), nil, 1, 3)
	checkOff(t, "perhaps is not surely", m, []int{0}, api.OK)
}

// P10.6: the first of the shortest lists, against all lists.
func TestFewestOff(t *testing.T) {
	d := dice(5)
	down, several, stands, offs := 0, [2]int{}, [4]int{}, [5]int{}
	for range 6000 {
		m := d.sort(d.any, d.flat, d.walls)
		want, ties, is := fewest(len(m.Stands), func(list []int) bool { return covers(m, list) })
		if is {
			checkFewest(t, "a model", m, want, api.OK)
			stands[min(len(want), 3)]++
		} else {
			checkFewest(t, "a model", m, nil, api.ErrDown)
			down++
		}
		if ties > 1 {
			several[0]++
		}
		want, ties, _ = fewest(len(m.Pins), func(list []int) bool { return showsAll(without(m, list...)) })
		checkOff(t, "a model", m, want, api.OK)
		offs[min(len(want), 4)]++
		if ties > 1 {
			several[1]++
		}
	}
	if down < 100 || slices.Min(several[:]) < 100 || slices.Min(stands[:3]) < 100 || stands[3] < 5 || slices.Min(offs[:]) < 100 {
		t.Errorf("%d with none, %v of several, %v stands, %v pins off: too few for a test", down, several, stands, offs)
	}
}
