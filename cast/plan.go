package cast

import (
	"iter"
	"slices"

	"hachure/api"
)

// choices are the casts that each piece of an order can have, the first ones first.
type choices [][]api.CaPlace

// chosen returns the casts that fit each piece of an order, or the error of the shop, of the casts that were measured, or
// of the order.
func chosen(s api.CaShop, seen []api.CaSeen, order []api.Span) (choices, api.Errno) {
	l, e := look(s, seen)
	if e != api.OK {
		return nil, e
	}
	if e := orderFault(order); e != api.OK {
		return nil, e
	}
	if l.contrary() {
		return nil, api.ErrDown
	}
	var c choices
	for _, piece := range order {
		c = append(c, l.fits(piece))
	}
	return c, api.OK
}

// of returns the choices that are left with some moulds alone.
func (c choices) of(moulds []int) choices {
	left := make(choices, len(c))
	for piece, casts := range c {
		for _, cast := range casts {
			if slices.Contains(moulds, cast.Mould) {
				left[piece] = append(left[piece], cast)
			}
		}
	}
	return left
}

// fixed returns the choices if a piece has to have some cast.
func (c choices) fixed(piece int, cast api.CaPlace) choices {
	c = slices.Clone(c)
	c[piece] = []api.CaPlace{cast}
	return c
}

// plan has for each piece of an order its cast, or nowhere as long as it has none.
type plan []api.CaPlace

// nowhere is no cast.
var nowhere = api.CaPlace{Mould: -1, Cast: -1}

// with returns a plan in which one more piece has a cast, beside those that have one: they may have to give it away for
// another one. If there is none for it, it returns the plan as it was, and false.
func (c choices) with(before plan, piece int) (plan, bool) {
	p := slices.Clone(before)
	tried := map[api.CaPlace]bool{}
	var give func(piece int) bool
	give = func(piece int) bool {
		for _, cast := range c[piece] {
			if tried[cast] {
				continue
			}
			tried[cast] = true
			if holder := slices.Index(p, cast); holder < 0 || give(holder) {
				p[piece] = cast
				return true
			}
		}
		return false
	}
	if !give(piece) {
		return before, false
	}
	return p, true
}

// some returns as many pieces as can be that can have casts, no two the same, the first ones of several. Each one is taken
// that can have one beside those before it. As to pieces that can, one of any more pieces that can is always to be added,
// no list is longer than this one, and none as long is before it.
func (c choices) some() (pieces []int) {
	p := plan(slices.Repeat([]api.CaPlace{nowhere}, len(c)))
	for piece := range c {
		longer, is := c.with(p, piece)
		if is {
			p, pieces = longer, append(pieces, piece)
		}
	}
	return pieces
}

// doForAll reports whether all pieces can have casts, no two the same.
func (c choices) doForAll() bool { return len(c.some()) == len(c) }

// first returns the first plan, and whether there is one: each piece has the first cast that leaves one for all others.
func (c choices) first() (p plan, is bool) {
	if !c.doForAll() {
		return nil, false
	}
	for piece, casts := range c {
		at := slices.IndexFunc(casts, func(cast api.CaPlace) bool { return c.fixed(piece, cast).doForAll() })
		p = append(p, casts[at])
		c = c.fixed(piece, casts[at])
	}
	return p, true
}

// lack reports whether pieces lack casts.
func (c choices) lack(pieces []int) bool {
	fit := map[api.CaPlace]bool{}
	for _, piece := range pieces {
		for _, cast := range c[piece] {
			fit[cast] = true
		}
	}
	return len(fit) < len(pieces)
}

// lists yields all ascending lists of some of so many numbers from 0 on, the shorter ones first, and of those that are as
// long the first ones first.
func lists(many int) iter.Seq[[]int] {
	return func(yield func([]int) bool) {
		all := [][]int{nil}
		for at := 0; at < len(all) && yield(all[at]); at++ {
			for n := range many {
				if list := all[at]; len(list) == 0 || n > slices.Max(list) {
					all = append(all, append(slices.Clone(list), n))
				}
			}
		}
	}
}
