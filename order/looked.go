package order

import "hachure/api"

// castings are so many of each part.
type castings [api.MaxOrParts]int

// looked is a shop that is looked at: how many hours there are up to the evening of each day, and the days on which castings
// are done, as far as they are known.
type looked struct {
	api.OrShop
	evenings []int
	known    map[castings]int
}

// look returns a shop that is looked at, or its error.
func look(s api.OrShop) (*looked, api.Errno) {
	if _, _, e := Check(s); e != api.OK {
		return nil, e
	}
	l := &looked{OrShop: s, known: map[castings]int{}}
	l.evenings = l.each(l.upTo)
	return l, api.OK
}

// each returns what is told of each day.
func (l *looked) each(tell func(day int) int) (told []int) {
	for day := range len(l.Hours) {
		told = append(told, tell(day))
	}
	return told
}

// upTo returns how many hours there are up to the evening of a day.
func (l *looked) upTo(day int) (hours int) {
	for _, n := range l.Hours[:day+1] {
		hours += n
	}
	return hours
}

// long returns how many hours castings take.
func (l *looked) long(c castings) (hours int) {
	for part, p := range l.Parts {
		hours += c[part] * p.Long
	}
	return hours
}

// done returns the first day by whose evening there are as many hours as castings take, or the one after the last day.
func (l *looked) done(c castings) int {
	day, is := l.known[c]
	if !is {
		long := l.long(c)
		day = first(l.evenings, func(_, hours int) bool { return hours >= long })
		l.known[c] = day
	}
	return day
}

// taking is a shop that is looked at with the orders that are taken.
type taking struct {
	*looked
	orders []api.OrOrder
}

// taking returns the shop with some of its orders taken.
func (l *looked) taking(taken []int) taking {
	t := taking{looked: l}
	for _, order := range taken {
		t.orders = append(t.orders, l.Orders[order])
	}
	return t
}

// lookTaking returns a shop that is looked at with some orders taken, or the error of either.
func lookTaking(s api.OrShop, taken []int) (taking, api.Errno) {
	l, e := look(s)
	if e != api.OK {
		return taking{}, e
	}
	if e := takenFault(s, taken); e != api.OK {
		return taking{}, e
	}
	return l.taking(taken), api.OK
}

// with returns the shop with one more order taken.
func (t taking) with(o api.OrOrder) taking {
	return taking{t.looked, append(t.orders[:len(t.orders):len(t.orders)], o)}
}

// worth returns what the orders are worth.
func (t taking) worth() (worth int) {
	for _, o := range t.orders {
		worth += o.Worth
	}
	return worth
}

// due returns how many pieces of a part are due on a day or before.
func (t taking) due(part, day int) (pieces int) {
	for _, o := range t.orders {
		if o.Part == part && o.Due <= day {
			pieces += o.Many
		}
	}
	return pieces
}

// needed returns the castings that are needed by a day.
func (t taking) needed(day int) (c castings) {
	for part, p := range t.Parts {
		lacking := max(0, t.due(part, day)-p.Stock)
		c[part] = (lacking + p.Batch - 1) / p.Batch
	}
	return c
}

// all returns the castings that are needed by the last day.
func (t taking) all() castings { return t.needed(len(t.Hours) - 1) }

// late reports whether the castings that are needed by a day take more hours than there are up to its evening.
func (t taking) late(day int) bool { return t.done(t.needed(day)) > day }

// firstLate returns the first day that is late, and whether there is one: if not, the orders can be kept.
func (t taking) firstLate() (day int, is bool) {
	day = first(t.Hours, func(day, _ int) bool { return t.late(day) })
	return day, day < len(t.Hours)
}

// canBeKept reports whether the orders can be kept.
func (t taking) canBeKept() bool {
	_, late := t.firstLate()
	return !late
}
