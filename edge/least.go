package edge

import (
	"iter"
	"slices"

	"hachure/api"
)

// set is a set of small numbers, each of which is a bit.
type set uint

func (s set) has(n int) bool { return s>>n&1 == 1 }

// sets yields all sets of the numbers 0 to n-1, from the one with all of them to the one with none.
func sets(n int) iter.Seq[set] {
	return func(yield func(set) bool) {
		for less := range 1 << n {
			if !yield(set(1<<n - 1 - less)) {
				return
			}
		}
	}
}

// best returns the first one of several things than which no other one is better.
func best[T any](things iter.Seq[T], better func(a, b T) bool) T {
	var found T
	first := true
	for x := range things {
		if first || better(x, found) {
			found, first = x, false
		}
	}
	return found
}

// below yields changes with each set of sheets lowered by 1, and at last with none.
func (l looked) below(x changes) iter.Seq[changes] {
	return func(yield func(changes) bool) {
		for s := range sets(len(l.Sheets)) {
			lower := x
			for i := range l.Sheets {
				if s.has(i) {
					lower[i]--
				}
			}
			if !yield(lower) {
				return
			}
		}
	}
}

// prices returns a function that tells what changes cost or, if they do not agree, more than any that do. The same
// changes are below many others, so what they cost is kept.
func (l looked) prices() func(changes) int {
	known := map[changes]int{}
	return func(x changes) int {
		if price, is := known[x]; is {
			return price
		}
		price := l.cost(x)
		if l.tooLow(x) || l.firstApart(x) >= 0 {
			price = l.dearest() + 1
		}
		known[x] = price
		return price
	}
}

// cheapest returns the changes that agree and cost least, the first ones of several, from the highest ones that agree.
// Of all the cheapest changes the lower ones of each sheet agree and are cheapest too: these are the first ones. From
// above them a step to the best place next to it, which costs no more, never leads below one of them; and there is one
// such step (all that are farthest above them are lowered) until they are reached.
func (l looked) cheapest(highest changes) changes {
	price := l.prices()
	x := highest
	for {
		next := best(l.below(x), func(a, b changes) bool { return price(a) < price(b) })
		if next == x {
			return x
		}
		x = next
	}
}

// spare yields the lists of edges without which changes of the others agree.
func (l looked) spare() iter.Seq[[]int] {
	return func(yield func([]int) bool) {
		for s := range sets(len(l.Edges)) {
			list, rest := l.split(s)
			if _, can := wanting(rest).highest(); can && !yield(list) {
				return
			}
		}
	}
}

// split returns the list of the edges in a set, and the case without them.
func (l looked) split(s set) (list []int, rest api.EdCase) {
	rest = l.EdCase
	rest.Edges = nil
	for i, d := range l.Edges {
		if s.has(i) {
			list = append(list, i)
			continue
		}
		rest.Edges = append(rest.Edges, d)
	}
	return list, rest
}

// fewer reports whether a list is shorter than another one, or as long and before it.
func fewer(a, b []int) bool {
	return len(a) < len(b) || len(a) == len(b) && slices.Compare(a, b) < 0
}
