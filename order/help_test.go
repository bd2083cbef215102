package order_test

import (
	"iter"
	"slices"

	"hachure/api"
)

func part(name string, batch, long, stock int) api.OrPart {
	return api.OrPart{Name: name, Batch: batch, Long: long, Stock: stock}
}

func order(part, many, due, worth int) api.OrOrder {
	return api.OrOrder{Part: part, Many: many, Due: due, Worth: worth}
}

// names are those of the parts that tests make.
func names() []string { return []string{"hill", "vale", "ford"} }

// sample is S of the chapter's examples.
func sample() api.OrShop {
	return api.OrShop{Hours: []int{8, 8, 0, 8, 8},
		Parts:  []api.OrPart{part("hill", 4, 6, 1), part("vale", 2, 5, 0)},
		Orders: []api.OrOrder{order(0, 5, 1, 100), order(1, 2, 1, 40), order(1, 3, 4, 70), order(0, 9, 3, 110)}}
}

// clone returns a shop that shares no memory with another one.
func clone(s api.OrShop) api.OrShop {
	return api.OrShop{Hours: slices.Clone(s.Hours), Parts: slices.Clone(s.Parts), Orders: slices.Clone(s.Orders)}
}

// equal reports whether two shops are the same.
func equal(a, b api.OrShop) bool {
	return slices.Equal(a.Hours, b.Hours) && slices.Equal(a.Parts, b.Parts) && slices.Equal(a.Orders, b.Orders)
}

// due returns how many pieces of a part are in orders that are taken and due on a day or before.
func due(s api.OrShop, taken []int, part, day int) (pieces int) {
	for _, i := range taken {
		if s.Orders[i].Part == part && s.Orders[i].Due <= day {
			pieces += s.Orders[i].Many
		}
	}
	return pieces
}

// castings returns how many castings of a part are needed by a day, found by trying one after the other.
func castings(s api.OrShop, taken []int, part, day int) (many int) {
	p := s.Parts[part]
	for p.Stock+many*p.Batch < due(s, taken, part, day) {
		many++
	}
	return many
}

// allCastings returns how many castings of each part are needed by the last day.
func allCastings(s api.OrShop, taken []int) (many []int) {
	for i := range s.Parts {
		many = append(many, castings(s, taken, i, len(s.Hours)-1))
	}
	return many
}

// missing returns the first day by which more hours are needed than there are, and how many more; or that there is none.
func missing(s api.OrShop, taken []int) (day, hours int, is bool) {
	there := 0
	for day, h := range s.Hours {
		there += h
		takes := 0
		for i, p := range s.Parts {
			takes += castings(s, taken, i, day) * p.Long
		}
		if takes > there {
			return day, takes - there, true
		}
	}
	return 0, 0, false
}

// keeps reports whether orders can be kept, by the castings that are needed.
func keeps(s api.OrShop, taken []int) bool {
	_, _, is := missing(s, taken)
	return !is
}

// plan returns the plan of orders that can be kept. Castings are looked for day by day, and each one takes hours off a list
// that has the day of each hour: it is done on that of its last one.
func plan(s api.OrShop, taken []int) (casts []api.OrCast) {
	var hours []int
	for day, h := range s.Hours {
		hours = append(hours, slices.Repeat([]int{day}, h)...)
	}
	cast := make([]int, len(s.Parts))
	for day := range s.Hours {
		for i, p := range s.Parts {
			for cast[i] < castings(s, taken, i, day) {
				cast[i]++
				casts = append(casts, api.OrCast{Part: i, Day: hours[p.Long-1]})
				hours = hours[p.Long:]
			}
		}
	}
	return casts
}

// kept returns what is kept of a part in the evening of each day, if these castings are done: it is gone on with day by day.
func kept(s api.OrShop, taken []int, part int, casts []api.OrCast) (pieces []int) {
	left := s.Parts[part].Stock
	for day := range s.Hours {
		for _, c := range casts {
			if c.Part == part && c.Day == day {
				left += s.Parts[part].Batch
			}
		}
		for _, i := range taken {
			if o := s.Orders[i]; o.Part == part && o.Due == day {
				left -= o.Many
			}
		}
		pieces = append(pieces, left)
	}
	return pieces
}

// delivers reports whether there is any way to cast, one casting after the other, with which all orders are delivered from
// what is in stock or cast by their days. Each casting is tried next that the hours are enough for.
func delivers(s api.OrShop, taken []int) bool {
	known := map[[api.MaxOrParts]int]bool{}
	var from func(cast [api.MaxOrParts]int, hours int) bool
	from = func(cast [api.MaxOrParts]int, hours int) bool {
		if is, found := known[cast]; found {
			return is
		}
		known[cast] = inStock(s, taken, cast, hours, sum(s.Hours))
		for i, p := range s.Parts {
			next := cast
			next[i]++
			if known[cast] || hours+p.Long > sum(s.Hours) {
				continue
			}
			known[cast] = inStock(s, taken, cast, hours, hours+p.Long-1) && from(next, hours+p.Long)
		}
		return known[cast]
	}
	return from([api.MaxOrParts]int{}, 0)
}

// inStock reports whether, with so many castings, there is enough on each day whose evening comes after so many hours.
func inStock(s api.OrShop, taken []int, cast [api.MaxOrParts]int, lo, hi int) bool {
	for day := range s.Hours {
		if evening := sum(s.Hours[:day+1]); evening < lo || evening > hi {
			continue
		}
		for i, p := range s.Parts {
			if p.Stock+cast[i]*p.Batch < due(s, taken, i, day) {
				return false
			}
		}
	}
	return true
}

func sum(list []int) (n int) {
	for _, x := range list {
		n += x
	}
	return n
}

// promised returns the first day on which a further order can be due, or -1; and whether it can be on all days from then on.
func promised(s api.OrShop, taken []int, part, many int) (first int, all bool) {
	first, all = -1, true
	for day := range s.Hours {
		further := clone(s)
		further.Orders = append(further.Orders, order(part, many, day, 0))
		is := keeps(further, append(slices.Clone(taken), len(s.Orders)))
		if is && first < 0 {
			first = day
		}
		all = all && is == (first >= 0)
	}
	return first, all
}

// worth returns what orders are worth.
func worth(s api.OrShop, taken []int) (worth int) {
	for _, i := range taken {
		worth += s.Orders[i].Worth
	}
	return worth
}

// sets yields all sets of orders, by their bits.
func sets(s api.OrShop) iter.Seq[[]int] {
	return func(yield func([]int) bool) {
		for bits := range 1 << len(s.Orders) {
			var taken []int
			for i := range s.Orders {
				if bits>>i&1 == 1 {
					taken = append(taken, i)
				}
			}
			if !yield(taken) {
				return
			}
		}
	}
}

// best returns the first of the sets that can be kept and are worth most, what they are worth, and how many there are.
func best(s api.OrShop) (found []int, most, ties int) {
	for taken := range sets(s) {
		switch w := worth(s, taken); {
		case !keeps(s, taken), w < most:
		case w > most || ties == 0:
			found, most, ties = taken, w, 1
		default:
			ties++
			if slices.Compare(taken, found) < 0 {
				found = taken
			}
		}
	}
	return found, most, ties
}

// costs returns what an order costs the others, and whether it can be kept alone.
func costs(s api.OrShop, order int) (cost int, is bool) {
	with, without := -1, -1
	for taken := range sets(s) {
		others := slices.DeleteFunc(slices.Clone(taken), func(i int) bool { return i == order })
		switch w := worth(s, others); {
		case !keeps(s, taken):
		case len(others) < len(taken):
			with = max(with, w)
		default:
			without = max(without, w)
		}
	}
	return without - with, with >= 0
}

// dice gives numbers that look random, and are the same in each run.
type dice uint64

func (d *dice) roll(n int) int {
	*d = *d*6364136223846793005 + 1442695040888963407
	return int(uint64(*d)>>33) % n
}

// from returns a number from lo to hi.
func (d *dice) from(lo, hi int) int { return lo + d.roll(hi-lo+1) }

// one returns one of some numbers.
func (d *dice) one(of ...int) int { return of[d.roll(len(of))] }

// most are the greatest numbers of a shop.
type most struct{ days, hours, parts, batch, long, stock, orders, many, worth int }

// shop returns a shop with numbers that are at most so great.
func (d *dice) shop(m most) (s api.OrShop) {
	for range d.from(1, m.days) {
		s.Hours = append(s.Hours, d.one(0, 1, 1, 1)*d.from(0, m.hours))
	}
	for i := range d.from(1, m.parts) {
		s.Parts = append(s.Parts, part(names()[i], d.from(1, m.batch), d.from(1, m.long), d.from(0, m.stock)))
	}
	for range d.from(0, m.orders) {
		s.Orders = append(s.Orders, order(d.roll(len(s.Parts)), d.from(1, m.many), d.roll(len(s.Hours)), d.from(0, m.worth)))
	}
	return s
}

// any returns a shop of any sort.
func (d *dice) any() api.OrShop {
	return d.shop(most{d.one(3, 6, 20), d.one(8, 24), 3, d.one(2, 5, 10), d.one(2, 8, 48), d.one(0, 5, 50), 8, d.one(3, 10, 50), d.one(1, 5, 10000)})
}

// busy returns a shop some of whose orders can be kept, mostly, and some cannot.
func (d *dice) busy() api.OrShop {
	return d.shop(most{d.one(4, 8), 12, 3, 4, d.one(4, 8), d.one(0, 6), 8, 9, d.one(3, 9, 300)})
}

// roomy returns a shop in which many castings are needed, for which there mostly are enough hours.
func (d *dice) roomy() api.OrShop {
	return d.shop(most{20, 24, 3, d.one(1, 3), d.one(2, 6, 12), 5, 8, d.one(9, 20), 10})
}

// small returns a shop with few ways to cast.
func (d *dice) small() api.OrShop {
	return d.shop(most{d.one(3, 5), d.one(3, 6), 3, d.one(1, 3), d.one(2, 5), d.one(0, 3), 5, d.one(2, 5), d.one(2, 9)})
}

// sort returns a shop of one of some sorts.
func (d *dice) sort(of ...func() api.OrShop) api.OrShop { return of[d.roll(len(of))]() }

// taken returns some orders.
func (d *dice) taken(s api.OrShop) (taken []int) {
	often := d.from(1, 4)
	for i := range s.Orders {
		if d.roll(4) < often {
			taken = append(taken, i)
		}
	}
	return taken
}

// canTake returns some orders that can be kept: one after the other is left out until they can.
func (d *dice) canTake(s api.OrShop) []int {
	taken := d.taken(s)
	for !keeps(s, taken) {
		taken = slices.Delete(taken, 0, 1)
	}
	return taken
}

// shuffled returns the first numbers in some order.
func (d *dice) shuffled(many int) (list []int) {
	for i := range many {
		list = slices.Insert(list, d.roll(i+1), i)
	}
	return list
}
