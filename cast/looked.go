package cast

import (
	"iter"
	"slices"

	"hachure/api"
)

// truth is what a truth says of one mould, with the casts that were measured.
type truth struct {
	seen                      []api.CaSeen
	mould, shrink, size, wear int
}

// cast returns the size of a cast of the mould.
func (t truth) cast(number int) int {
	wet := t.size + t.wear*number
	return wet - wet*t.shrink/1000
}

// agrees reports whether what was measured of the mould is so.
func (t truth) agrees() bool {
	for _, c := range t.seen {
		if c.Mould == t.mould && !within(c.Size.Lo, c.Size.Hi, t.cast(c.Cast)) {
			return false
		}
	}
	return true
}

// numbers yields the numbers of a span, ascending.
func numbers(s api.Span) iter.Seq[int] {
	return func(yield func(int) bool) {
		for more := range s.Hi - s.Lo + 1 {
			if !yield(s.Lo + more) {
				return
			}
		}
	}
}

// sizes are the least and the greatest size of each cast of each mould. No size is 0: where there is none, both are.
type sizes [api.MaxCaMoulds][api.MaxCaCasts]api.Span

// joined returns the least span that has all numbers of two.
func joined(a, b api.Span) api.Span { return api.Span{Lo: min(a.Lo, b.Lo), Hi: max(a.Hi, b.Hi)} }

// looked is a shop that is looked at, and the casts that were measured; and of all truths that agree the numbers of
// Shrink, ascending, and what casts can be.
type looked struct {
	api.CaShop
	seen    []api.CaSeen
	shrinks []int
	sizes   sizes
}

// truths yields what truths say of a mould with some number of Shrink, if all is so that is asked of them.
func (l *looked) truths(mould, shrink int, asked func(truth) bool) iter.Seq[truth] {
	m := l.Moulds[mould]
	return func(yield func(truth) bool) {
		for size := range numbers(m.Size) {
			for wear := range numbers(m.Wear) {
				if t := (truth{l.seen, mould, shrink, size, wear}); asked(t) && !yield(t) {
					return
				}
			}
		}
	}
}

// add adds the sizes that the casts of a mould have in a truth.
func (l *looked) add(t truth) {
	for cast := range l.Moulds[t.mould].Casts {
		size := api.Span{Lo: t.cast(cast), Hi: t.cast(cast)}
		if known := l.sizes[t.mould][cast]; known != (api.Span{}) {
			size = joined(known, size)
		}
		l.sizes[t.mould][cast] = size
	}
}

// look returns a shop that is looked at with the casts that were measured, or the error of either. Moulds have only the
// number of Shrink in common: with the same one, what a truth says of a mould and what another truth says of the next one
// are a truth together. So the truths are gone through mould by mould.
func look(s api.CaShop, seen []api.CaSeen) (looked, api.Errno) {
	if _, e := CheckSeen(s, seen); e != api.OK {
		return looked{}, e
	}
	l := looked{CaShop: s, seen: seen}
shrinks:
	for shrink := range numbers(s.Shrink) {
		var agreeing []truth
		for mould := range s.Moulds {
			truths := slices.Collect(l.truths(mould, shrink, truth.agrees))
			if len(truths) == 0 {
				continue shrinks
			}
			agreeing = append(agreeing, truths...)
		}
		l.shrinks = append(l.shrinks, shrink)
		for _, t := range agreeing {
			l.add(t)
		}
	}
	return l, api.OK
}

// contrary reports whether no truth agrees.
func (l *looked) contrary() bool { return len(l.shrinks) == 0 }

// fits returns the casts that fit a piece, the first ones first.
func (l *looked) fits(piece api.Span) (casts []api.CaPlace) {
	for mould, m := range l.Moulds {
		for cast := range m.Casts {
			if joined(l.sizes[mould][cast], piece) == piece {
				casts = append(casts, api.CaPlace{Mould: mould, Cast: cast})
			}
		}
	}
	return casts
}
