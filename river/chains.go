package river

import (
	"iter"

	"hachure/api"
)

// noChain is the number of a point that is out of reach.
const noChain = -1

// chains are the number of each point, and how many numbers there are.
type chains struct {
	numbers [api.MaxRvPoints]int
	many    int
}

// with returns chains with the number of one more point.
func (c chains) with(at, number int) chains {
	c.numbers[at] = number
	c.many = max(c.many, number+1)
	return c
}

// fewer reports whether there are fewer numbers than in other chains.
func (c chains) fewer(other chains) bool { return c.many < other.many }

// joins reports whether a point is a conflict with each one before it that has some number.
func (l looked) joins(c chains, at, number int) bool {
	for before := range at {
		if c.numbers[before] == number && !l.conflict(before, at) {
			return false
		}
	}
	return true
}

// chains yields all chains, the first ones first.
func (l looked) chains() iter.Seq[chains] {
	return func(yield func(chains) bool) {
		var from func(c chains, at int) bool
		from = func(c chains, at int) bool {
			if at == len(l.points) {
				return yield(c)
			}
			if l.outOfReach(at) {
				return from(c.with(at, noChain), at+1)
			}
			for number := range c.many + 1 {
				if l.joins(c, at, number) && !from(c.with(at, number), at+1) {
					return false
				}
			}
			return true
		}
		from(chains{}, 0)
	}
}
