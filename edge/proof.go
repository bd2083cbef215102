package edge

import "hachure/api"

// pushes are a number for each edge, a proof. Where there is no edge they are 0.
type pushes [api.MaxEdEdges]int

// bound returns the bound of a proof.
func (l looked) bound(p pushes) int {
	bound := 0
	var given [api.MaxEdSheets]int
	for i, d := range l.Edges {
		given[d.A] += p[i]
		given[d.B] -= p[i]
		bound += max(p[i], 0)*l.wants[i].Lo + min(p[i], 0)*l.wants[i].Hi
	}
	for i, s := range l.Sheets {
		bound -= s.Most * max(0, unsigned(given[i])-s.Weight)
	}
	return bound
}

// proof returns a proof with the greatest bound, or, if no changes agree, with one that is great enough. Each push adds
// at least 1 to the bound, so no number gets beyond what all sheets cost and 1, which is far below MaxEdProof.
func (l looked) proof() pushes {
	var p pushes
	for l.bound(p) <= l.dearest() {
		next, more := l.pushed(p)
		if !more {
			break
		}
		p = next
	}
	return p
}

// pushed returns a proof with a greater bound, and whether it found one: 1 is pushed along edges from a sheet to another
// one, or to one where it has been. That is enough: the way from a proof to any other one is made of such pushes, and if
// all together make the bound greater, one of them alone does.
func (l looked) pushed(p pushes) (pushes, bool) {
	before := l.bound(p)
	var been [api.MaxEdSheets]bool
	var push func(at int) bool
	push = func(at int) bool {
		if l.bound(p) > before {
			return true
		}
		if been[at] {
			return false
		}
		been[at] = true
		for i, d := range l.Edges {
			to, by := across(d, at)
			if by == 0 {
				continue
			}
			p[i] += by
			if push(to) {
				return true
			}
			p[i] -= by
		}
		been[at] = false
		return false
	}
	for start := range l.Sheets {
		if push(start) {
			return p, true
		}
	}
	return pushes{}, false
}

// across returns the other sheet of an edge, and what a push to there adds to the number of the edge: 0 if the edge is
// not one of the sheet.
func across(d api.EdEdge, from int) (to, by int) {
	switch from {
	case d.A:
		return d.B, 1
	case d.B:
		return d.A, -1
	}
	return 0, 0
}
