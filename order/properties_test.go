package order_test

import (
	"slices"
	"strings"
	"testing"

	"hachure/api"
	orders "hachure/order"
)

// asked returns what a function returned, but stops the test if that is an error.
func asked[T any](t *testing.T, result T, e api.Errno) T {
	t.Helper()
	if e != api.OK {
		t.Fatalf("an error: %d", e)
	}
	return result
}

// canBeKept reports whether Late says that orders can be kept.
func canBeKept(t *testing.T, s api.OrShop, taken []int) bool {
	t.Helper()
	_, _, e := orders.Late(s, taken)
	if e != api.OK && e != api.ErrNone {
		t.Fatalf("an error: %d", e)
	}
	return e == api.ErrNone
}

// neededOf, planOf, keptOf and bestOf return what the functions do that cannot fail.
func neededOf(t *testing.T, s api.OrShop, taken []int) []int {
	t.Helper()
	list, e := orders.Needed(s, taken)
	return asked(t, list, e)
}

func planOf(t *testing.T, s api.OrShop, taken []int) []api.OrCast {
	t.Helper()
	list, e := orders.Plan(s, taken)
	return asked(t, list, e)
}

func keptOf(t *testing.T, s api.OrShop, taken []int, part int) []int {
	t.Helper()
	list, e := orders.Kept(s, taken, part)
	return asked(t, list, e)
}

func bestOf(t *testing.T, s api.OrShop) (taken []int, worth int) {
	t.Helper()
	taken, worth, e := orders.Best(s)
	return asked(t, taken, e), worth
}

// P11.6: by the plan nothing that is kept is below 0; its castings are done one after the other, within the hours, and there
// are as many as are needed.
func TestKeptTheorem(t *testing.T) {
	d := dice(5)
	none, casts := 0, 0
	for range 6000 {
		s := d.sort(d.any, d.busy, d.roomy, d.small)
		taken := d.canTake(s)
		list, many, took, before := planOf(t, s, taken), make([]int, len(s.Parts)), 0, 0
		for _, c := range list {
			many[c.Part]++
			took += s.Parts[c.Part].Long
			if c.Day < before || took > sum(s.Hours[:c.Day+1]) || c.Day > 0 && took <= sum(s.Hours[:c.Day]) {
				t.Errorf("%v: Plan of %v = %v, but %v is not done then", s, taken, list, c)
			}
			before = c.Day
			casts++
		}
		if needed := neededOf(t, s, taken); !slices.Equal(many, needed) {
			t.Errorf("%v: Plan of %v = %v, but %v are needed", s, taken, list, needed)
		}
		for i := range s.Parts {
			left := keptOf(t, s, taken, i)
			if slices.Min(left) < 0 || !slices.Equal(left, kept(s, taken, i, list)) {
				t.Errorf("%v: Kept of %v, %d = %v, with the plan %v", s, taken, i, left, list)
			}
			if len(taken) > 0 && slices.Min(left) == 0 {
				none++
			}
		}
	}
	if none < 1000 || casts < 5000 {
		t.Errorf("%d parts of which nothing is left, %d castings: too few for a test", none, casts)
	}
}

// P11.6: orders can be kept just if there is any way to cast with which all are delivered.
func TestDelivered(t *testing.T) {
	d := dice(6)
	is, not := 0, 0
	for range 6000 {
		s := d.small()
		taken := d.taken(s)
		want := delivers(s, taken)
		if canBeKept(t, s, taken) != want {
			t.Errorf("%v: that %v can be kept is not %v", s, taken, want)
		}
		if want && len(taken) > 0 {
			is++
		} else if !want {
			not++
		}
	}
	if is < 1000 || not < 1000 {
		t.Errorf("%d that are delivered, %d that are not: too few for a test", is, not)
	}
}

// P11.7: what is needed is enough for all orders; with one casting fewer of a part it is not.
func TestNoFewer(t *testing.T) {
	d := dice(7)
	some, none, late := 0, 0, 0
	for range 6000 {
		s := d.sort(d.any, d.busy, d.roomy, d.small)
		taken := d.taken(s)
		needed := neededOf(t, s, taken)
		if len(needed) != len(s.Parts) {
			t.Fatalf("%v: Needed of %v = %v", s, taken, needed)
		}
		for i, p := range s.Parts {
			pieces, there := due(s, taken, i, len(s.Hours)), p.Stock+needed[i]*p.Batch
			if needed[i] < 0 || there < pieces || needed[i] > 0 && there-p.Batch >= pieces {
				t.Errorf("%v: Needed of %v = %v, but %d are ordered of %d", s, taken, needed, pieces, i)
			}
			if needed[i] > 0 {
				some++
			} else if pieces > 0 {
				none++
			}
		}
		if !canBeKept(t, s, taken) {
			late++
		}
	}
	if some < 3000 || none < 300 || late < 1000 {
		t.Errorf("%d parts with castings, %d without, %d that are late: too few for a test", some, none, late)
	}
}

// P11.8: what is due by the day of Late cannot be kept; what is due before it can be.
func TestTooLate(t *testing.T) {
	d := dice(8)
	late, fewer := 0, 0
	for range 6000 {
		s := d.sort(d.any, d.busy, d.roomy, d.small)
		taken := d.taken(s)
		day, hours, e := orders.Late(s, taken)
		if e != api.OK {
			continue
		}
		late++
		by := func(last int) []int {
			return slices.DeleteFunc(slices.Clone(taken), func(i int) bool { return s.Orders[i].Due > last })
		}
		checkLate(t, "what is due by the day", s, by(day), day, hours, api.OK)
		if before := by(day - 1); !canBeKept(t, s, before) {
			t.Errorf("%v: Late of %v = %d, but %v cannot be kept", s, taken, day, before)
		} else if len(before) > 0 {
			fewer++
		}
	}
	if late < 1000 || fewer < 300 {
		t.Errorf("%d that are late, %d with orders before: too few for a test", late, fewer)
	}
}

// P11.9: on the day of Promise, and on any later one, all can be kept; on an earlier one they cannot.
func TestPromised(t *testing.T) {
	d := dice(9)
	is, later, down := 0, 0, 0
	for range 6000 {
		s := d.sort(d.any, d.busy, d.roomy, d.small)
		s.Orders = s.Orders[:min(len(s.Orders), 7)]
		taken, i, pieces := d.canTake(s), d.roll(len(s.Parts)), d.from(1, d.one(2, 9, 50))
		first, e := orders.Promise(s, taken, i, pieces)
		switch {
		case e == api.ErrDown:
			first = len(s.Hours)
			down++
		case asked(t, first, e) > 0:
			later++
		default:
			is++
		}
		for day := range s.Hours {
			further := clone(s)
			further.Orders = append(further.Orders, order(i, pieces, day, 0))
			if canBeKept(t, further, append(slices.Clone(taken), len(s.Orders))) != (day >= first) {
				t.Errorf("%v: Promise of %v, %d, %d = %d, but with the day %d it is not so", s, taken, i, pieces, first, day)
			}
		}
		if _, all := promised(s, taken, i, pieces); !all {
			t.Errorf("%v: with %v, and %d of %d more, not all days after the first one will do", s, taken, pieces, i)
		}
	}
	if min(is, later, down) < 500 {
		t.Errorf("%d on the first day, %d later, %d never: too few for a test", is, later, down)
	}
}

// P11.10: the orders of Best can be kept, and are worth what it says; no orders that can be kept are worth more.
func TestWorthMost(t *testing.T) {
	d := dice(10)
	less, more := 0, 0
	for range 1500 {
		s := d.sort(d.any, d.busy, d.roomy, d.small)
		found, most := bestOf(t, s)
		if !canBeKept(t, s, found) || worth(s, found) != most {
			t.Errorf("%v: Best = %v, %d, but that is not so", s, found, most)
		}
		for taken := range sets(s) {
			switch is, w := canBeKept(t, s, taken), worth(s, taken); {
			case is && w > most:
				t.Errorf("%v: Best = %v, %d, but %v are worth %d", s, found, most, taken, w)
			case is && w < most:
				less++
			case w > most:
				more++
			}
		}
	}
	if less < 1000 || more < 1000 {
		t.Errorf("%d sets that are worth less, %d more: too few for a test", less, more)
	}
}

// P11.11: an order that is worth more than it costs is in Best, one that is worth less is not; none costs less than 0.
func TestCosts(t *testing.T) {
	d := dice(11)
	more, same, less, down := 0, 0, 0, 0
	for range 3000 {
		s := d.sort(d.any, d.busy, d.roomy, d.small)
		found, _ := bestOf(t, s)
		for i, o := range s.Orders {
			cost, e := orders.Costs(s, i)
			in := slices.Contains(found, i)
			switch {
			case e == api.ErrDown:
				if in || canBeKept(t, s, []int{i}) {
					t.Errorf("%v: Costs of %d returns ErrDown, and Best %v", s, i, found)
				}
				down++
			case asked(t, cost, e) < 0, o.Worth > cost && !in, o.Worth < cost && in:
				t.Errorf("%v: Costs of %d = %d, but Best = %v", s, i, cost, found)
			case o.Worth > cost:
				more++
			case o.Worth < cost:
				less++
			default:
				same++
			}
		}
	}
	if min(more, same, less, down) < 500 {
		t.Errorf("%d that are worth more, %d the same, %d less, %d that cannot be kept: too few for a test", more, same, less, down)
	}
}

// P11.12: what could be kept still can if an order is not taken, is due later, or fewer pieces are ordered.
func TestFewer(t *testing.T) {
	d := dice(12)
	kept, gained := 0, [3]int{}
	for range 6000 {
		s := d.sort(d.busy, d.small)
		taken := d.taken(s)
		if len(taken) == 0 {
			continue
		}
		is, i := canBeKept(t, s, taken), taken[d.roll(len(taken))]
		without := slices.DeleteFunc(slices.Clone(taken), func(n int) bool { return n == i })
		later, fewer := clone(s), clone(s)
		later.Orders[i].Due = d.from(s.Orders[i].Due, len(s.Hours)-1)
		fewer.Orders[i].Many = d.from(1, s.Orders[i].Many)
		for k, still := range []bool{canBeKept(t, s, without), canBeKept(t, later, taken), canBeKept(t, fewer, taken)} {
			switch {
			case is && !still:
				t.Errorf("%v: %v can be kept, but, with the order %d changed (%d), cannot", s, taken, i, k)
			case is:
				kept++
			case still:
				gained[k]++
			}
		}
	}
	if kept < 1000 || slices.Min(gained[:]) < 100 {
		t.Errorf("%d that can be kept, %v that can then: too few for a test", kept, gained)
	}
}

// better returns a shop with more hours, more in stock, a greater batch, a lesser long, or one day more.
func better(d *dice, s api.OrShop, how int) api.OrShop {
	s = clone(s)
	day, p := d.roll(len(s.Hours)), &s.Parts[d.roll(len(s.Parts))]
	switch how {
	case 0:
		s.Hours[day] = d.from(s.Hours[day], 24)
	case 1:
		p.Stock = d.from(p.Stock, 50)
	case 2:
		p.Batch = d.from(p.Batch, 10)
	case 3:
		p.Long = d.from(1, p.Long)
	case 4:
		s.Hours = append(s.Hours, d.from(0, 24))
	}
	return s
}

// P11.12: what could be kept still can in a better shop, and Best is worth no less.
func TestBetter(t *testing.T) {
	d := dice(13)
	kept, gained, more := 0, [5]int{}, 0
	for range 2500 {
		s := d.sort(d.busy, d.small)
		taken := d.taken(s)
		is := canBeKept(t, s, taken)
		_, most := bestOf(t, s)
		for how := range gained {
			other := better(&d, s, how)
			still := canBeKept(t, other, taken)
			_, then := bestOf(t, other)
			if is && !still || then < most {
				t.Errorf("%v: %v can be kept: %v, Best is worth %d; now %v: %v, %d", s, taken, is, most, other, still, then)
			}
			if is {
				kept++
			} else if still {
				gained[how]++
			}
			if then > most {
				more++
			}
		}
	}
	// A day after all others changes nothing, as no order is due on it.
	if kept < 2000 || slices.Min(gained[:4]) < 50 || gained[4] > 0 || more < 300 {
		t.Errorf("%d that can be kept, %v that can then, %d worth more: too few for a test, or too many", kept, gained, more)
	}
}

// P11.13: orders and parts are put in another order.
func TestOrder(t *testing.T) {
	d := dice(14)
	is, not, moved := 0, 0, 0
	for range 3000 {
		s := d.sort(d.any, d.busy, d.roomy, d.small)
		byOrder, byPart := d.shuffled(len(s.Orders)), d.shuffled(len(s.Parts))
		other := clone(s)
		for i, to := range byPart {
			other.Parts[to] = s.Parts[i]
		}
		for i, to := range byOrder {
			other.Orders[to] = s.Orders[i]
			other.Orders[to].Part = byPart[s.Orders[i].Part]
		}
		taken := d.taken(s)
		var there []int
		for _, i := range taken {
			there = append(there, byOrder[i])
		}
		slices.Sort(there)
		day, hours, e := orders.Late(s, taken)
		checkLate(t, "in another order", other, there, day, hours, e)
		_, most := bestOf(t, s)
		if _, then := bestOf(t, other); then != most {
			t.Errorf("%v: Best is worth %d, of %v %d", s, most, other, then)
		}
		if e == api.OK {
			not++
		} else {
			is++
		}
		if !slices.IsSorted(byPart) && !slices.IsSorted(byOrder) {
			moved++
		}
	}
	if min(is, not, moved) < 500 {
		t.Errorf("%d that can be kept, %d that cannot, %d in another order: too few for a test", is, not, moved)
	}
}

// P11.14: two orders of a part that are due on the same day, and one order of as many pieces.
func TestApart(t *testing.T) {
	d := dice(15)
	is, not := 0, 0
	for range 6000 {
		s := d.sort(d.busy, d.small)
		s.Orders = append(s.Orders[:min(len(s.Orders), 6)], order(d.roll(len(s.Parts)), d.from(1, d.one(4, 50)), d.roll(len(s.Hours)), d.roll(9)))
		last := len(s.Orders) - 1
		taken := append(d.taken(api.OrShop{Orders: s.Orders[:last]}), last)
		two, o := clone(s), s.Orders[last]
		if o.Many == 1 {
			continue
		}
		first := d.from(1, o.Many-1)
		two.Orders[last].Many = first
		two.Orders = append(two.Orders, order(o.Part, o.Many-first, o.Due, 0))
		one := canBeKept(t, s, taken)
		if canBeKept(t, two, append(slices.Clone(taken), last+1)) != one {
			t.Errorf("%v: that %v can be kept is %v, but not in %v", s, taken, one, two)
		}
		if one {
			is++
		} else {
			not++
		}
	}
	if min(is, not) < 500 {
		t.Errorf("%d that can be kept, %d that cannot: too few for a test", is, not)
	}
}

// greatestShop is a shop whose numbers and lists are all as great as can be.
func greatestShop() api.OrShop {
	s := api.OrShop{Hours: slices.Repeat([]int{24}, 20)}
	for _, n := range names() {
		s.Parts = append(s.Parts, part(strings.Repeat(n, 4), 10, 48, 50))
	}
	for i := range 8 {
		s.Orders = append(s.Orders, order(i%3, 50, 19-i, 10000))
	}
	return s
}

// P1: the greatest shops, and those with the most castings.
func TestTheGreatest(t *testing.T) {
	every := []int{0, 1, 2, 3, 4, 5, 6, 7}
	s := greatestShop()
	most := clone(s)
	most.Parts = []api.OrPart{part("hill", 1, 48, 0), part("vale", 1, 1, 0), part("ford", 1, 1, 0)}
	short := clone(most)
	short.Parts[0].Long = 1
	for i := range short.Orders {
		short.Orders[i].Due = 19
	}
	for _, shop := range []api.OrShop{s, most, short} {
		checkNeeded(t, "the greatest", shop, every, allCastings(shop, every), api.OK)
		found, worth, _ := best(shop)
		checkBest(t, "the greatest", shop, found, worth, api.OK)
		casts := plan(shop, found)
		checkPlan(t, "the greatest", shop, found, casts, api.OK)
		checkKept(t, "the greatest", shop, found, 2, kept(shop, found, 2, casts), api.OK)
	}
	checkLate(t, "400 castings", short, every, 0, 0, api.ErrNone)
	checkNeeded(t, "400 castings", short, every, []int{150, 150, 100}, api.OK)
	checkPromise(t, "400 castings and 50 more", short, every, 2, 50, 2, api.OK)
	day, hours, _ := missing(most, every)
	checkLate(t, "150 long castings", most, every, day, hours, api.OK)
}

// callAll calls all functions, and reports whether there is no error in the shop.
func callAll(s api.OrShop, taken []int, part, many, order int) bool {
	orders.Late(s, taken)
	orders.Needed(s, taken)
	orders.Plan(s, taken)
	orders.Kept(s, taken, part)
	orders.Promise(s, taken, part, many)
	orders.Best(s)
	orders.Costs(s, order)
	_, _, e := orders.Check(s)
	return e == api.OK
}

// P1, P11.15: any arguments are accepted.
func TestAnyArguments(t *testing.T) {
	d := dice(16)
	odd := []int{small, small + 1, -1000, -2, -1, 0, 0, 1, 1, 2, 3, 4, 5, 8, 10, 11, 24, 25, 48, 49, 50, 51, 10000, 10001, 1 << 32, big - 1, big}
	pick := func() int { return odd[d.roll(len(odd))] }
	right := 0
	for range 8000 {
		s := sample()
		for range d.roll(3) {
			p, o := &s.Parts[d.roll(len(s.Parts))], &s.Orders[d.roll(len(s.Orders))]
			numbers := []*int{&s.Hours[d.roll(len(s.Hours))], &p.Batch, &p.Long, &p.Stock, &o.Part, &o.Many, &o.Due, &o.Worth}
			switch n := d.roll(len(numbers) + 3); n {
			default:
				*numbers[n] = pick()
			case 8:
				s.Hours = append(s.Hours, pick())
			case 9:
				s.Parts = append(s.Parts, part([]string{"ford", "", "mill", "hill", "\xff"}[d.roll(5)], pick(), pick(), pick()))
			case 10:
				s.Orders = append(s.Orders, order(pick(), pick(), pick(), pick()))
			}
		}
		var taken []int
		for range d.roll(5) {
			taken = append(taken, d.one(0, 1, 2, 3, pick()))
		}
		if callAll(s, taken, d.one(0, 1, pick()), pick(), d.one(0, 1, pick())) {
			right++
		} else {
			_, _, e := orders.Check(s)
			checkErrors(t, "odd numbers", s, e)
		}
	}
	if right < 2000 || right > 6000 {
		t.Errorf("%d without an error: too few for a test, or too many", right)
	}
	callAll(api.OrShop{}, nil, 0, 0, 0)
}

// P11.15: no argument is modified.
func TestArguments(t *testing.T) {
	d := dice(17)
	for range 1000 {
		// Each list has room behind it, where nothing may be written.
		s := d.sort(d.any, d.busy)
		taken := append(d.canTake(s), 99)
		s.Hours, s.Parts, s.Orders = append(s.Hours, 7), append(s.Parts, part("last", 7, 7, 7)), append(s.Orders, order(7, 7, 7, 7))
		before, wasTaken := clone(s), slices.Clone(taken)
		less := api.OrShop{Hours: s.Hours[:len(s.Hours)-1], Parts: s.Parts[:len(s.Parts)-1], Orders: s.Orders[:len(s.Orders)-1]}
		if !callAll(less, taken[:len(taken)-1], 0, d.from(1, 50), 0) {
			t.Errorf("%v: an error", less)
		}
		if !equal(s, before) || !slices.Equal(taken, wasTaken) {
			t.Errorf("%v, %v are now %v, %v", before, wasTaken, s, taken)
		}
	}
}

// P11.15: a result is new memory, and nothing is kept between calls.
func TestMemory(t *testing.T) {
	s, taken := sample(), []int{0, 1, 2}
	for range 2 {
		casts := planOf(t, s, taken)
		if len(casts) != 4 || casts[3] != (api.OrCast{Part: 1, Day: 3}) {
			t.Fatalf("Plan = %v", casts)
		}
		clear(casts)
		needed, best := neededOf(t, s, taken), []int(nil)
		best, _ = bestOf(t, s)
		for i, list := range [][]int{needed, keptOf(t, s, taken, 1), best} {
			if want := [][]int{{1, 3}, {0, 2, 2, 4, 1}, {1, 2, 3}}[i]; !slices.Equal(list, want) {
				t.Fatalf("%d: %v, not %v", i, list, want)
			}
			for k := range list {
				list[k] = 99
			}
		}
		if !equal(s, sample()) || !slices.Equal(taken, []int{0, 1, 2}) {
			t.Errorf("a result shares memory: %v, %v", s, taken)
		}
	}
}
