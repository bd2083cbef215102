package sheet

import (
	"iter"

	"hachure/api"
)

// looked is a sheet that is looked at with all its notes wider by some decimetres.
type looked struct {
	api.ShSheet
	wider int
}

// bound says that the height of a point, less that of another one, is at most a number. Either can be ground.
type bound struct{ of, over, most int }

// bounds yields what the notes say.
func (l looked) bounds() iter.Seq[bound] {
	return func(yield func(bound) bool) {
		for _, n := range l.Notes {
			s := l.saying(n)
			over, by := s.over(), s.span()
			if !yield(bound{n.A, over, by.Hi + l.wider}) || !yield(bound{over, n.A, l.wider - by.Lo}) {
				return
			}
		}
	}
}

// far is by how much the height of each point can be above that of each other one at most. The last one is ground.
type far [ground + 1][ground + 1]int

// unbound returns how far heights can be apart without any note.
func unbound() (f far) {
	for a := range f {
		for b := range f[a] {
			if a != b && a != ground {
				f[a][b] = api.MaxHeight
			}
		}
	}
	return f
}

// apart returns how far heights can be apart, over all truths, and whether there is one.
func (l looked) apart() (far, bool) {
	f := unbound()
	for b := range l.bounds() {
		f[b.of][b.over] = min(f[b.of][b.over], b.most)
	}
	return f.tight()
}

// fits reports whether there is a truth.
func (l looked) fits() bool {
	_, fits := l.apart()
	return fits
}

// tight returns the least numbers that follow from those of f, and whether heights can keep to them.
// Each step doubles the length of the chains of bounds that are looked at; so, after a few of them, either
// nothing changes any more, or a round of bounds puts a point above itself by less than 0.
func (f far) tight() (far, bool) {
	for {
		next := f.chained()
		if next.contradicts() {
			return far{}, false
		}
		if next == f {
			return f, true
		}
		f = next
	}
}

// chained returns f, with two of its numbers in place of one where they are together less.
func (f far) chained() far {
	next := f
	for a := range f {
		for via := range f {
			for b := range f {
				next[a][b] = min(next[a][b], f[a][via]+f[via][b])
			}
		}
	}
	return next
}

// contradicts reports whether a point would have to be below itself.
func (f far) contradicts() bool {
	for a := range f {
		if f[a][a] < 0 {
			return true
		}
	}
	return false
}

// between returns by how much a is above b, at least and at most.
func (f far) between(a, b int) api.Span { return api.Span{Lo: -f[b][a], Hi: f[a][b]} }

// canTop reports whether a point is at least as high as each of the first many ones in some truth. It is enough
// to look at them one by one: a round of bounds goes through the point once, and so uses one of these conditions.
func (f far) canTop(a, many int) bool {
	for b := range many {
		if f[a][b] < 0 {
			return false
		}
	}
	return true
}
