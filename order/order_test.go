package order_test

import (
	"math"
	"slices"
	"strings"
	"testing"

	"hachure/api"
	orders "hachure/order"
)

const (
	big   = math.MaxInt
	small = math.MinInt
)

// change is a change of a shop.
type change func(s *api.OrShop)

// fault is a change of the sample, and what Check says of it.
type fault struct {
	what     string
	change   change
	part, at int
	e        api.Errno
}

// hours, parts and ordered return a change to other ones.
func hours(h ...int) change { return func(s *api.OrShop) { s.Hours = h } }

func parts(p ...api.OrPart) change { return func(s *api.OrShop) { s.Parts = p } }

func ordered(o ...api.OrOrder) change { return func(s *api.OrShop) { s.Orders = o } }

// day, name, numbers and one return a change of the hours of a day, of a part's name or numbers, or of one order.
func day(i, hours int) change { return func(s *api.OrShop) { s.Hours[i] = hours } }

func name(i int, name string) change { return func(s *api.OrShop) { s.Parts[i].Name = name } }

func numbers(i, batch, long, stock int) change {
	return func(s *api.OrShop) { s.Parts[i] = part(s.Parts[i].Name, batch, long, stock) }
}

func one(i int, o api.OrOrder) change { return func(s *api.OrShop) { s.Orders[i] = o } }

// all returns all changes, one after the other.
func all(changes ...change) change {
	return func(s *api.OrShop) {
		for _, change := range changes {
			change(s)
		}
	}
}

// changed returns the sample with a change.
func changed(changes ...change) api.OrShop {
	s := sample()
	all(changes...)(&s)
	return s
}

// hoursFaults are those of how many of all there are, and of the hours.
func hoursFaults() []fault {
	wrong := all(name(0, ""), one(0, order(9, 0, 9, -1)))
	few := all(ordered(), parts(part("hill", 1, 1, 0)))
	manyDays := slices.Repeat([]int{24}, 21)
	manyParts := make([]api.OrPart, 4)
	manyOrders := make([]api.OrOrder, 9)
	return []fault{
		{"the sample", all(), 0, 0, api.OK},
		{"the greatest shop", func(s *api.OrShop) { *s = greatestShop() }, 0, 0, api.OK},
		{"the least shop", all(few, hours(0)), 0, 0, api.OK},
		{"no days", hours(), 1, 0, api.ErrLong},
		{"no days, parts and orders", all(hours(), parts(), ordered()), 1, 0, api.ErrLong},
		{"one day", all(few, hours(24)), 0, 0, api.OK},
		{"20 days", hours(manyDays[:20]...), 0, 0, api.OK},
		{"21 days", hours(manyDays...), 1, 0, api.ErrLong},
		{"21 days, all wrong", hours(slices.Repeat([]int{25}, 21)...), 1, 0, api.ErrLong},
		{"no parts", parts(), 1, 0, api.ErrLong},
		{"no parts, no orders", all(parts(), ordered()), 1, 0, api.ErrLong},
		{"4 parts, all wrong", parts(manyParts...), 1, 0, api.ErrLong},
		{"3 parts, all wrong", parts(manyParts[:3]...), 2, 0, api.ErrForm},
		{"no orders", ordered(), 0, 0, api.OK},
		{"9 orders, all wrong", ordered(manyOrders...), 1, 0, api.ErrLong},
		{"8 orders, all wrong", ordered(manyOrders[:8]...), 3, 0, api.ErrRange},
		{"4 parts before hours", all(parts(manyParts...), day(0, -1)), 1, 0, api.ErrLong},
		{"9 orders before hours", all(ordered(manyOrders...), day(0, -1)), 1, 0, api.ErrLong},
		{"hours below 0", day(3, -1), 1, 3, api.ErrRange},
		{"too many hours", day(4, 25), 1, 4, api.ErrRange},
		{"the least int as hours", day(2, small), 1, 2, api.ErrRange},
		{"the greatest int as hours", day(1, big), 1, 1, api.ErrRange},
		{"no hours", day(0, 0), 0, 0, api.OK},
		{"all hours", day(0, 24), 0, 0, api.OK},
		{"no hours on any day", hours(0, 0, 0, 0, 0), 0, 0, api.OK},
		{"the first day", all(day(0, -1), day(1, 25)), 1, 0, api.ErrRange},
		{"the first day decides", all(day(4, -1), day(2, 25)), 1, 2, api.ErrRange},
		{"no days, and all else wrong", all(wrong, hours()), 1, 0, api.ErrLong},
		{"hours, and all else wrong", all(wrong, day(4, -1)), 1, 4, api.ErrRange},
	}
}

// partFaults are those of parts.
func partFaults() []fault {
	third := func(p api.OrPart) change { return func(s *api.OrShop) { s.Parts = append(s.Parts, p) } }
	return []fault{
		{"3 parts", third(part("ford", 1, 1, 0)), 0, 0, api.OK},
		{"no name", name(1, ""), 2, 1, api.ErrForm},
		{"a name with a great letter", name(0, "Hill"), 2, 0, api.ErrForm},
		{"a name that begins with a digit", name(0, "1hill"), 2, 0, api.ErrForm},
		{"a name of 17 bytes", name(1, strings.Repeat("a", 17)), 2, 1, api.ErrForm},
		{"a name of 16 bytes", name(1, strings.Repeat("a", 16)), 0, 0, api.OK},
		{"a name with a digit and a hyphen", name(1, "v-1"), 0, 0, api.OK},
		{"a name that is no text", name(0, "h\xff"), 2, 0, api.ErrForm},
		{"the same name twice", name(1, "hill"), 2, 1, api.ErrTwice},
		{"the name of the first part again", third(part("hill", 1, 1, 0)), 2, 2, api.ErrTwice},
		{"the name of the second part again", third(part("vale", 1, 1, 0)), 2, 2, api.ErrTwice},
		{"the same name that is none twice", all(name(0, "-"), name(1, "-")), 2, 0, api.ErrForm},
		{"the least numbers", numbers(1, 1, 1, 0), 0, 0, api.OK},
		{"the greatest numbers", numbers(1, 10, 48, 50), 0, 0, api.OK},
		{"a Batch of 0", numbers(0, 0, 6, 1), 2, 0, api.ErrRange},
		{"a Batch below 0", numbers(0, -1, 6, 1), 2, 0, api.ErrRange},
		{"a Batch too great", numbers(1, 11, 6, 1), 2, 1, api.ErrRange},
		{"any int as Batch", numbers(1, small, 6, 1), 2, 1, api.ErrRange},
		{"a Long of 0", numbers(0, 4, 0, 1), 2, 0, api.ErrRange},
		{"a Long below 0", numbers(0, 4, -1, 1), 2, 0, api.ErrRange},
		{"a Long too great", numbers(1, 4, 49, 1), 2, 1, api.ErrRange},
		{"any int as Long", numbers(1, 4, big, 1), 2, 1, api.ErrRange},
		{"a Stock below 0", numbers(0, 4, 6, -1), 2, 0, api.ErrRange},
		{"a Stock too great", numbers(1, 4, 6, 51), 2, 1, api.ErrRange},
		{"the least int as Stock", numbers(1, 4, 6, small), 2, 1, api.ErrRange},
		{"the greatest int as Stock", numbers(1, 4, 6, big), 2, 1, api.ErrRange},
		{"no name before numbers", all(name(1, ""), numbers(1, 0, 0, -1)), 2, 1, api.ErrForm},
		{"the same name before numbers", all(name(1, "hill"), numbers(1, 0, 0, -1)), 2, 1, api.ErrTwice},
		{"the first part decides", all(numbers(0, 0, 6, 1), name(1, "")), 2, 0, api.ErrRange},
		{"a part before a third one", all(name(1, "hill"), third(part("", 1, 1, 0))), 2, 1, api.ErrTwice},
		{"parts come before orders", all(numbers(1, 4, 49, 1), one(0, order(9, 0, 9, -1))), 2, 1, api.ErrRange},
	}
}

// orderFaults are those of orders.
func orderFaults() []fault {
	eight := slices.Repeat([]api.OrOrder{order(1, 1, 0, 0)}, 8)
	return []fault{
		{"8 orders that are the same", ordered(eight...), 0, 0, api.OK},
		{"a Part below 0", one(0, order(-1, 1, 0, 0)), 3, 0, api.ErrNone},
		{"a Part that is none", one(1, order(2, 1, 0, 0)), 3, 1, api.ErrNone},
		{"the least int as Part", one(2, order(small, 1, 0, 0)), 3, 2, api.ErrNone},
		{"the greatest int as Part", one(3, order(big, 1, 0, 0)), 3, 3, api.ErrNone},
		{"the least numbers", one(0, order(0, 1, 0, 0)), 0, 0, api.OK},
		{"the greatest numbers", one(3, order(1, 50, 4, 10000)), 0, 0, api.OK},
		{"a Many of 0", one(0, order(0, 0, 0, 0)), 3, 0, api.ErrRange},
		{"a Many below 0", one(0, order(0, -1, 0, 0)), 3, 0, api.ErrRange},
		{"a Many too great", one(1, order(0, 51, 0, 0)), 3, 1, api.ErrRange},
		{"any int as Many", one(1, order(0, big, 0, 0)), 3, 1, api.ErrRange},
		{"a Due below 0", one(0, order(0, 1, -1, 0)), 3, 0, api.ErrRange},
		{"a Due after the last day", one(2, order(0, 1, 5, 0)), 3, 2, api.ErrRange},
		{"a Due after the last of other days", all(hours(8, 8, 8), one(0, order(0, 1, 2, 0)), one(1, order(0, 1, 3, 0))), 3, 1, api.ErrRange},
		{"the least int as Due", one(2, order(0, 1, small, 0)), 3, 2, api.ErrRange},
		{"the greatest int as Due", one(2, order(0, 1, big, 0)), 3, 2, api.ErrRange},
		{"a Worth below 0", one(0, order(0, 1, 0, -1)), 3, 0, api.ErrRange},
		{"a Worth too great", one(3, order(0, 1, 0, 10001)), 3, 3, api.ErrRange},
		{"any int as Worth", one(3, order(0, 1, 0, small)), 3, 3, api.ErrRange},
		{"a Part before numbers", one(3, order(2, 0, -1, -1)), 3, 3, api.ErrNone},
		{"the first order decides", all(one(1, order(0, 0, 0, 0)), one(2, order(2, 1, 0, 0))), 3, 1, api.ErrRange},
		{"the last of 8 orders", all(ordered(eight...), one(7, order(1, 1, 5, 0))), 3, 7, api.ErrRange},
	}
}

// P11.1: each part, the order of errors, and that all other functions return the error first.
func TestCheck(t *testing.T) {
	for _, f := range slices.Concat(hoursFaults(), partFaults(), orderFaults()) {
		s := changed(f.change)
		part, at, e := orders.Check(s)
		if part != f.part || at != f.at || e != f.e {
			t.Errorf("%s: Check = %d, %d, %d, not %d, %d, %d", f.what, part, at, e, f.part, f.at, f.e)
		}
		if f.e != api.OK {
			checkErrors(t, f.what, s, f.e)
		}
	}
}

// checkErrors checks that each function but Check returns an error before its own ones, and nothing else with it.
func checkErrors(t *testing.T, what string, s api.OrShop, e api.Errno) {
	t.Helper()
	for _, taken := range [][]int{nil, {0}, {0, 0}, {-1}, {big, small}} {
		checkTaken(t, what, s, taken, e)
	}
	checkBest(t, what, s, nil, 0, e)
	for _, odd := range []int{0, -1, 9, big, small} {
		checkCosts(t, what, s, odd, 0, e)
	}
}

// checkTaken checks that each function with orders that are taken returns an error before its own ones, and nothing else.
func checkTaken(t *testing.T, what string, s api.OrShop, taken []int, e api.Errno) {
	t.Helper()
	checkLate(t, what, s, taken, 0, 0, e)
	checkNeeded(t, what, s, taken, nil, e)
	checkPlan(t, what, s, taken, nil, e)
	for _, odd := range []int{0, -1, 9, big, small} {
		checkKept(t, what, s, taken, odd, nil, e)
		for _, many := range []int{1, 0, 51, small} {
			checkPromise(t, what, s, taken, odd, many, 0, e)
		}
	}
}

func checkLate(t *testing.T, what string, s api.OrShop, taken []int, day, hours int, e api.Errno) {
	t.Helper()
	if d, h, f := orders.Late(s, taken); d != day || h != hours || f != e {
		t.Errorf("%s: %v: Late of %v = %d, %d, %d, not %d, %d, %d", what, s, taken, d, h, f, day, hours, e)
	}
}

func checkNeeded(t *testing.T, what string, s api.OrShop, taken, want []int, e api.Errno) {
	t.Helper()
	if list, f := orders.Needed(s, taken); !slices.Equal(list, want) || f != e {
		t.Errorf("%s: %v: Needed of %v = %v, %d, not %v, %d", what, s, taken, list, f, want, e)
	}
}

func checkPlan(t *testing.T, what string, s api.OrShop, taken []int, want []api.OrCast, e api.Errno) {
	t.Helper()
	if list, f := orders.Plan(s, taken); !slices.Equal(list, want) || f != e {
		t.Errorf("%s: %v: Plan of %v = %v, %d, not %v, %d", what, s, taken, list, f, want, e)
	}
}

func checkKept(t *testing.T, what string, s api.OrShop, taken []int, part int, want []int, e api.Errno) {
	t.Helper()
	if list, f := orders.Kept(s, taken, part); !slices.Equal(list, want) || f != e {
		t.Errorf("%s: %v: Kept of %v, %d = %v, %d, not %v, %d", what, s, taken, part, list, f, want, e)
	}
}

func checkPromise(t *testing.T, what string, s api.OrShop, taken []int, part, many, want int, e api.Errno) {
	t.Helper()
	if day, f := orders.Promise(s, taken, part, many); day != want || f != e {
		t.Errorf("%s: %v: Promise of %v, %d, %d = %d, %d, not %d, %d", what, s, taken, part, many, day, f, want, e)
	}
}

func checkBest(t *testing.T, what string, s api.OrShop, want []int, worth int, e api.Errno) {
	t.Helper()
	if list, w, f := orders.Best(s); !slices.Equal(list, want) || w != worth || f != e {
		t.Errorf("%s: %v: Best = %v, %d, %d, not %v, %d, %d", what, s, list, w, f, want, worth, e)
	}
}

func checkCosts(t *testing.T, what string, s api.OrShop, order, want int, e api.Errno) {
	t.Helper()
	if cost, f := orders.Costs(s, order); cost != want || f != e {
		t.Errorf("%s: %v: Costs of %d = %d, %d, not %d, %d", what, s, order, cost, f, want, e)
	}
}

// The chapter's examples.
func TestExamples(t *testing.T) {
	s := sample()
	checkLate(t, "S", s, []int{0, 1}, 0, 0, api.ErrNone)
	checkLate(t, "S", s, []int{0, 1, 2, 3}, 3, 5, api.OK)
	checkLate(t, "S", s, []int{0, 2, 3}, 4, 2, api.OK)
	checkNeeded(t, "S", s, []int{0, 1, 2}, []int{1, 3}, api.OK)
	checkPlan(t, "S", s, []int{0, 1, 2}, []api.OrCast{{Part: 0, Day: 0}, {Part: 1, Day: 1}, {Part: 1, Day: 1}, {Part: 1, Day: 3}}, api.OK)
	checkKept(t, "S", s, []int{0, 1, 2}, 0, []int{5, 0, 0, 0, 0}, api.OK)
	checkKept(t, "S", s, []int{0, 1, 2}, 1, []int{0, 2, 2, 4, 1}, api.OK)
	checkPromise(t, "S", s, []int{1, 2, 3}, 1, 2, 0, api.OK)
	checkPromise(t, "S", s, []int{1, 2, 3}, 1, 3, 4, api.OK)
	checkPromise(t, "S", s, []int{1, 2, 3}, 0, 3, 0, api.ErrDown)
	checkBest(t, "S", s, []int{1, 2, 3}, 220, api.OK)
	for i, cost := range []int{110, 30, 60, 100} {
		checkCosts(t, "S", s, i, cost, api.OK)
	}
}

// P11.1 to P11.5: the errors of what is asked, in their order, before any other result.
func TestErrors(t *testing.T) {
	s := sample()
	for _, taken := range [][]int{{-1}, {4}, {0, 1, 2, 3, 4}, {0, 9, 1}, {2, 1, 4}, {4, 4}, {-1, -1}, {big}, {0, small}, {3, 2, 1, 0, -1}} {
		checkTaken(t, "an index that is none", s, taken, api.ErrNone)
	}
	for _, taken := range [][]int{{0, 0}, {1, 0}, {0, 2, 1}, {0, 1, 2, 3, 3}, {0, 1, 3, 2}, {3, 0, 1, 2}, slices.Repeat([]int{1}, 999)} {
		checkTaken(t, "not ascending", s, taken, api.ErrArg)
	}
	checkTaken(t, "no orders", changed(ordered()), []int{0}, api.ErrNone)
	every := []int{0, 1, 2, 3}
	for _, taken := range [][]int{nil, {0, 1}, every} {
		for _, odd := range []int{-1, 2, 9, small, big} {
			checkKept(t, "no part", s, taken, odd, nil, api.ErrNone)
			for _, many := range []int{1, 0, 51, big} {
				checkPromise(t, "no part", s, taken, odd, many, 0, api.ErrNone)
			}
		}
		for _, many := range []int{0, -1, 51, small, big} {
			checkPromise(t, "a number that is not in its range", s, taken, 1, many, 0, api.ErrRange)
		}
	}
	checkPlan(t, "orders that cannot be kept", s, every, nil, api.ErrDown)
	checkKept(t, "orders that cannot be kept", s, every, 1, nil, api.ErrDown)
	checkPromise(t, "orders that cannot be kept", s, every, 1, 1, 0, api.ErrDown)
	for _, odd := range []int{-1, 4, small, big} {
		checkCosts(t, "no order", s, odd, 0, api.ErrNone)
	}
	checkCosts(t, "no orders", changed(ordered()), 0, 0, api.ErrNone)
}

// P11.2: by hand.
func TestLateByHand(t *testing.T) {
	hill := []api.OrPart{part("hill", 4, 6, 1)}
	for _, o := range []struct {
		what      string
		hours     []int
		orders    []api.OrOrder
		needed    []int
		day, miss int
		e         api.Errno
	}{
		{"no orders", []int{0, 0}, nil, []int{0}, 0, 0, api.ErrNone},
		{"just what is in stock", []int{0, 0}, []api.OrOrder{order(0, 1, 0, 0)}, []int{0}, 0, 0, api.ErrNone},
		{"one more than is in stock", []int{0, 6}, []api.OrOrder{order(0, 2, 1, 0)}, []int{1}, 0, 0, api.ErrNone},
		{"just as many as a casting gives", []int{6}, []api.OrOrder{order(0, 5, 0, 0)}, []int{1}, 0, 0, api.ErrNone},
		{"one more than a casting gives", []int{6}, []api.OrOrder{order(0, 6, 0, 0)}, []int{2}, 0, 6, api.OK},
		{"an hour too few", []int{5, 9}, []api.OrOrder{order(0, 2, 0, 0)}, []int{1}, 0, 1, api.OK},
		{"hours of the day before", []int{5, 0, 1}, []api.OrOrder{order(0, 2, 2, 0)}, []int{1}, 0, 0, api.ErrNone},
		{"hours of the day after", []int{5, 0, 1}, []api.OrOrder{order(0, 2, 1, 0)}, []int{1}, 1, 1, api.OK},
		{"two orders that share what is in stock", []int{0, 6}, []api.OrOrder{order(0, 1, 1, 0), order(0, 1, 1, 0)}, []int{1}, 0, 0, api.ErrNone},
		{"two orders that share a casting", []int{6, 0}, []api.OrOrder{order(0, 3, 1, 0), order(0, 2, 0, 0)}, []int{1}, 0, 0, api.ErrNone},
		{"the first day of two", []int{5, 0}, []api.OrOrder{order(0, 9, 1, 0), order(0, 2, 0, 0)}, []int{3}, 0, 1, api.OK},
		{"the second day alone", []int{6, 5}, []api.OrOrder{order(0, 9, 1, 0), order(0, 2, 0, 0)}, []int{3}, 1, 7, api.OK},
		{"a day that is not the last one", []int{6, 5, 24}, []api.OrOrder{order(0, 9, 1, 0)}, []int{2}, 1, 1, api.OK},
		{"the day of an order, and not the one after it", []int{0, 0, 0}, []api.OrOrder{order(0, 2, 1, 0)}, []int{1}, 1, 6, api.OK},
	} {
		s := api.OrShop{Hours: o.hours, Parts: hill, Orders: o.orders}
		var taken []int
		for i := range o.orders {
			taken = append(taken, i)
		}
		checkLate(t, o.what, s, taken, o.day, o.miss, o.e)
		checkNeeded(t, o.what, s, taken, o.needed, api.OK)
		checkLate(t, o.what+", none of them taken", s, nil, 0, 0, api.ErrNone)
		checkNeeded(t, o.what+", none of them taken", s, nil, []int{0}, api.OK)
	}
	s := sample()
	checkLate(t, "both parts take hours", changed(day(1, 2)), []int{0, 1}, 1, 1, api.OK)
	checkNeeded(t, "orders that cannot be kept", s, []int{0, 1, 2, 3}, []int{4, 3}, api.OK)
	checkNeeded(t, "one of the orders", s, []int{3}, []int{2, 0}, api.OK)
}

// P11.2: against the definition, and against all ways to cast.
func TestLateNeeded(t *testing.T) {
	d := dice(1)
	late, is := 0, 0
	for range 20000 {
		s := d.sort(d.any, d.busy, d.roomy, d.small)
		taken := d.taken(s)
		if day, hours, missing := missing(s, taken); missing {
			checkLate(t, "a shop", s, taken, day, hours, api.OK)
			late++
		} else {
			checkLate(t, "a shop", s, taken, 0, 0, api.ErrNone)
			is++
		}
		checkNeeded(t, "a shop", s, taken, allCastings(s, taken), api.OK)
	}
	if late < 5000 || is < 5000 {
		t.Errorf("%d that are late, %d that can be kept: too few for a test", late, is)
	}
}

// P11.3: by hand.
func TestPlanKeptByHand(t *testing.T) {
	s := sample()
	checkPlan(t, "no orders", s, nil, nil, api.OK)
	checkKept(t, "no orders", s, nil, 0, []int{1, 1, 1, 1, 1}, api.OK)
	checkKept(t, "no orders", s, nil, 1, []int{0, 0, 0, 0, 0}, api.OK)
	// By the same day hill comes first, though vale is ordered first; what is needed by an earlier day comes before both.
	s.Orders = []api.OrOrder{order(1, 1, 3, 0), order(0, 9, 3, 0), order(1, 2, 1, 0)}
	all := []int{0, 1, 2}
	checkPlan(t, "earlier days, then earlier parts", s, all, []api.OrCast{{Part: 1, Day: 0}, {Part: 0, Day: 1}, {Part: 0, Day: 3}, {Part: 1, Day: 3}}, api.OK)
	checkKept(t, "earlier days, then earlier parts", s, all, 0, []int{1, 5, 5, 0, 0}, api.OK)
	checkKept(t, "earlier days, then earlier parts", s, all, 1, []int{2, 0, 0, 1, 1}, api.OK)
	// A casting that ends with a day is done on it, also if there are no hours on the next one.
	s = api.OrShop{Hours: []int{0, 6, 0, 3, 3}, Parts: []api.OrPart{part("hill", 1, 6, 0)}, Orders: []api.OrOrder{order(0, 2, 4, 0)}}
	checkPlan(t, "days without hours", s, []int{0}, []api.OrCast{{Part: 0, Day: 1}, {Part: 0, Day: 4}}, api.OK)
	checkKept(t, "days without hours", s, []int{0}, 0, []int{0, 1, 1, 1, 0}, api.OK)
	// A casting that takes more than a day, and one that is done on the day on which it begins.
	s = api.OrShop{Hours: []int{24, 24, 24}, Parts: []api.OrPart{part("hill", 10, 48, 50), part("vale", 1, 1, 0)}, Orders: []api.OrOrder{order(0, 50, 0, 0), order(1, 2, 2, 0), order(0, 1, 1, 0)}}
	checkPlan(t, "long and short castings", s, []int{0, 1, 2}, []api.OrCast{{Part: 0, Day: 1}, {Part: 1, Day: 2}, {Part: 1, Day: 2}}, api.OK)
	checkKept(t, "long and short castings", s, []int{0, 1, 2}, 0, []int{0, 9, 9}, api.OK)
	checkKept(t, "long and short castings", s, []int{0, 1}, 0, []int{0, 0, 0}, api.OK)
	checkPlan(t, "short castings alone", s, []int{1}, []api.OrCast{{Part: 1, Day: 0}, {Part: 1, Day: 0}}, api.OK)
	checkKept(t, "short castings alone", s, []int{1}, 1, []int{2, 2, 0}, api.OK)
}

// P11.3: against castings that take hours one by one.
func TestPlanKept(t *testing.T) {
	d := dice(2)
	down, is, long := 0, 0, 0
	for range 20000 {
		s := d.sort(d.any, d.busy, d.roomy, d.small)
		taken := d.taken(s)
		if !keeps(s, taken) {
			checkPlan(t, "a shop", s, taken, nil, api.ErrDown)
			checkKept(t, "a shop", s, taken, d.roll(len(s.Parts)), nil, api.ErrDown)
			down++
			continue
		}
		casts := plan(s, taken)
		checkPlan(t, "a shop", s, taken, casts, api.OK)
		for i := range s.Parts {
			checkKept(t, "a shop", s, taken, i, kept(s, taken, i, casts), api.OK)
		}
		is++
		if len(casts) > 3 {
			long++
		}
	}
	if down < 5000 || is < 5000 || long < 2000 {
		t.Errorf("%d without a plan, %d with one, %d with a long one: too few for a test", down, is, long)
	}
}

// P11.4: by hand.
func TestPromiseByHand(t *testing.T) {
	s := sample()
	checkPromise(t, "what is in stock", s, nil, 0, 1, 0, api.OK)
	checkPromise(t, "one casting", s, nil, 0, 5, 0, api.OK)
	checkPromise(t, "two castings", s, nil, 0, 6, 1, api.OK)
	checkPromise(t, "three castings", s, nil, 0, 13, 3, api.OK)
	checkPromise(t, "as many as can be", s, nil, 0, 21, 4, api.OK)
	checkPromise(t, "one more than can be", s, nil, 0, 22, 0, api.ErrDown)
	checkPromise(t, "too many of vale", s, nil, 1, 50, 0, api.ErrDown)
	checkPromise(t, "what an order has left of a casting", s, []int{2}, 1, 1, 0, api.OK)
	checkPromise(t, "a piece more than an order leaves", s, []int{0}, 0, 1, 0, api.OK)
	checkPromise(t, "what is in stock is for an order", changed(day(1, 3)), []int{0}, 0, 1, 3, api.OK)
	checkPromise(t, "hours that an order needs", s, []int{0, 3}, 1, 2, 4, api.OK)
	checkPromise(t, "the first day on which others still can be kept", changed(day(4, 2)), []int{0, 3}, 1, 2, 0, api.ErrDown)
	s = api.OrShop{Hours: []int{8, 8, 8}, Parts: []api.OrPart{part("hill", 1, 8, 0)}, Orders: []api.OrOrder{order(0, 1, 1, 0), order(0, 1, 0, 0)}}
	checkPromise(t, "all days before are full", s, []int{0, 1}, 0, 1, 2, api.OK)
	checkPromise(t, "a day before is not", s, []int{0}, 0, 1, 0, api.OK)
	checkPromise(t, "the day between", s, []int{1}, 0, 1, 1, api.OK)
	checkPromise(t, "two at once", s, []int{1}, 0, 2, 2, api.OK)
	checkPromise(t, "no hours are left", s, []int{0, 1}, 0, 2, 0, api.ErrDown)
	s.Orders = slices.Repeat([]api.OrOrder{order(0, 1, 2, 0)}, 8)
	checkPromise(t, "beside 8 orders, of which one is taken", s, []int{7}, 0, 2, 1, api.OK)
	s.Parts[0].Stock = 8
	checkPromise(t, "beside 8 orders", s, []int{0, 1, 2, 3, 4, 5, 6, 7}, 0, 3, 0, api.OK)
	checkPromise(t, "beside 8 orders, one more", s, []int{0, 1, 2, 3, 4, 5, 6, 7}, 0, 4, 0, api.ErrDown)
	s.Parts[0].Batch = 10
	checkPromise(t, "the most", s, nil, 0, 38, 2, api.OK)
	s.Parts[0].Stock = 50
	checkPromise(t, "as many as can be ordered", s, nil, 0, 50, 0, api.OK)
}

// P11.4: against all days.
func TestPromise(t *testing.T) {
	d := dice(3)
	down, late, many, days := 0, 0, 0, [4]int{}
	for range 20000 {
		s := d.sort(d.any, d.busy, d.roomy, d.small)
		taken, i, pieces := d.taken(s), d.roll(len(s.Parts)), d.from(1, d.one(2, 9, 50))
		first, _ := promised(s, taken, i, pieces)
		switch {
		case !keeps(s, taken):
			checkPromise(t, "a shop", s, taken, i, pieces, 0, api.ErrDown)
			late++
		case first < 0:
			checkPromise(t, "a shop", s, taken, i, pieces, 0, api.ErrDown)
			down++
		default:
			checkPromise(t, "a shop", s, taken, i, pieces, first, api.OK)
			days[min(first, 3)]++
			if len(taken) == 8 {
				many++
			}
		}
	}
	if down < 1000 || late < 5000 || many < 50 || slices.Min(days[:]) < 500 {
		t.Errorf("%d without a day, %d that are late, %d with 8 orders, %v by days: too few for a test", down, late, many, days)
	}
}

// worths returns the sample with orders of which each one takes a day of 8 hours, of one hill: how many can be kept, and what
// they are worth.
func worths(days int, worth ...int) api.OrShop {
	s := api.OrShop{Hours: slices.Repeat([]int{8}, days), Parts: []api.OrPart{part("hill", 1, 8, 0)}}
	for _, w := range worth {
		s.Orders = append(s.Orders, order(0, 1, days-1, w))
	}
	return s
}

// P11.5: by hand.
func TestBestCostsByHand(t *testing.T) {
	for _, o := range []struct {
		what  string
		shop  api.OrShop
		best  []int
		worth int
		costs []int
	}{
		{"no orders", worths(1), nil, 0, nil},
		{"one order", worths(1, 5), []int{0}, 5, []int{0}},
		{"an order that is worth nothing", worths(1, 0), nil, 0, []int{0}},
		{"two orders", worths(1, 4, 5), []int{1}, 5, []int{5, 4}},
		{"two orders that are worth the same", worths(1, 5, 5), []int{0}, 5, []int{5, 5}},
		{"two of three", worths(2, 4, 5, 5), []int{1, 2}, 10, []int{5, 4, 4}},
		{"the first of several", worths(2, 4, 5, 4, 4), []int{0, 1}, 9, []int{4, 4, 4, 4}},
		{"room for all", worths(4, 4, 5, 4, 4), []int{0, 1, 2, 3}, 17, []int{0, 0, 0, 0}},
		{"worth nothing, before others", worths(3, 0, 7, 0, 8, 0), []int{0, 1, 3}, 15, []int{0, 0, 0, 0, 0}},
		{"worth nothing, after others", worths(3, 7, 8, 0), []int{0, 1}, 15, []int{0, 0, 0}},
		{"worth nothing, and no room", worths(2, 0, 7, 0, 8), []int{1, 3}, 15, []int{7, 0, 7, 0}},
		{"the greatest worth", worths(8, slices.Repeat([]int{10000}, 8)...), []int{0, 1, 2, 3, 4, 5, 6, 7}, 80000, slices.Repeat([]int{0}, 8)},
	} {
		checkBest(t, o.what, o.shop, o.best, o.worth, api.OK)
		for i, cost := range o.costs {
			checkCosts(t, o.what, o.shop, i, cost, api.OK)
		}
	}
	s := worths(3, 5, 5, 7)
	s.Orders[2].Many = 2
	checkBest(t, "two orders for one", s, []int{0, 2}, 12, api.OK)
	checkCosts(t, "one that takes more", s, 2, 5, api.OK)
	s.Orders[2].Many = 4
	checkBest(t, "one that cannot be kept", s, []int{0, 1}, 10, api.OK)
	checkCosts(t, "one that cannot be kept", s, 2, 0, api.ErrDown)
	checkCosts(t, "another one", s, 0, 0, api.OK)
	s.Orders[2].Many, s.Orders[2].Due = 1, 0
	checkBest(t, "one that is due earlier", s, []int{0, 1, 2}, 17, api.OK)
	s.Hours[0] = 7
	checkBest(t, "one that is due too early", s, []int{0, 1}, 10, api.OK)
	checkCosts(t, "one that is due too early", s, 2, 0, api.ErrDown)
}

// P11.5: against all sets of orders.
func TestBestCosts(t *testing.T) {
	d := dice(4)
	some, several, down, free, dear := 0, 0, 0, 0, 0
	for range 3000 {
		s := d.sort(d.any, d.busy, d.busy, d.roomy, d.small)
		taken, most, ties := best(s)
		checkBest(t, "a shop", s, taken, most, api.OK)
		if 0 < len(taken) && len(taken) < len(s.Orders) {
			some++
		}
		if ties > 1 {
			several++
		}
		for i := range s.Orders {
			cost, is := costs(s, i)
			switch {
			case !is:
				checkCosts(t, "a shop", s, i, 0, api.ErrDown)
				down++
				continue
			case cost == 0:
				free++
			default:
				dear++
			}
			checkCosts(t, "a shop", s, i, cost, api.OK)
		}
	}
	if min(some, several) < 300 || min(down, free, dear) < 1000 {
		t.Errorf("%d with some orders, %d of several, %d orders that cannot be kept, %d that cost nothing, %d that do: too few for a test", some, several, down, free, dear)
	}
}
