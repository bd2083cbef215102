package edge

import "hachure/api"

// looked is a case that is looked at, with what its edges want.
type looked struct {
	api.EdCase
	wants [api.MaxEdEdges]api.Span
}

// changes are a number for each sheet, by which it is raised. Where there is no sheet they are 0.
type changes [api.MaxEdSheets]int

// look returns a case that is looked at, or its error.
func look(c api.EdCase) (looked, api.Errno) {
	if _, _, e := Check(c); e != api.OK {
		return looked{}, e
	}
	return wanting(c), api.OK
}

// lookWith returns a case that is looked at, and changes, or the error of the case, or of the changes.
func lookWith(c api.EdCase, list []int) (l looked, x changes, e api.Errno) {
	if l, e = look(c); e != api.OK {
		return looked{}, changes{}, e
	}
	if len(list) != len(c.Sheets) {
		return looked{}, changes{}, api.ErrLong
	}
	for i, s := range c.Sheets {
		if !within(-s.Most, s.Most, list[i]) {
			return looked{}, changes{}, api.ErrRange
		}
	}
	copy(x[:], list)
	return l, x, api.OK
}

// wanting returns a case without an error, with what its edges want.
func wanting(c api.EdCase) looked {
	l := looked{EdCase: c}
	for i, d := range c.Edges {
		l.wants[i] = wanted(d.Points, c.Tol)
	}
	return l
}

// wanted returns from where to where changes can bring points together. If they cannot, it ends before it begins.
func wanted(points []api.EdPoint, tol int) api.Span {
	w := api.Span{Lo: -api.MaxHeight - tol, Hi: api.MaxHeight + tol}
	for _, p := range points {
		by := p.B - p.A
		w = api.Span{Lo: max(w.Lo, by-tol), Hi: min(w.Hi, by+tol)}
	}
	return w
}

// torn reports whether an edge that wants these numbers contradicts itself.
func torn(wants api.Span) bool { return wants.Lo > wants.Hi }

// anyTorn reports whether an edge contradicts itself.
func (l looked) anyTorn() bool {
	for i := range l.Edges {
		if torn(l.wants[i]) {
			return true
		}
	}
	return false
}

// firstApart returns the first edge that does not agree with changes, or -1.
func (l looked) firstApart(x changes) int {
	for i, d := range l.Edges {
		if w := l.wants[i]; !within(w.Lo, w.Hi, x[d.A]-x[d.B]) {
			return i
		}
	}
	return -1
}

// cost returns what changes cost.
func (l looked) cost(x changes) int {
	cost := 0
	for i, s := range l.Sheets {
		cost += s.Weight * unsigned(x[i])
	}
	return cost
}

// dearest returns what all sheets cost, changed by their Most.
func (l looked) dearest() int {
	cost := 0
	for _, s := range l.Sheets {
		cost += s.Weight * s.Most
	}
	return cost
}

// unsigned returns a number without its sign.
func unsigned(n int) int { return max(n, -n) }

// tooLow reports whether a sheet is lowered by more than its Most.
func (l looked) tooLow(x changes) bool {
	for i, s := range l.Sheets {
		if x[i] < -s.Most {
			return true
		}
	}
	return false
}

// lowered returns changes after a step along each edge: a sheet that is too high for the other one is lowered.
func (l looked) lowered(x changes) changes {
	for i, d := range l.Edges {
		x[d.A] = min(x[d.A], x[d.B]+l.wants[i].Hi)
		x[d.B] = min(x[d.B], x[d.A]-l.wants[i].Lo)
	}
	return x
}

// highest returns the highest changes that agree, of all sheets at once, and whether any do. A sheet is as high as some
// Most and the edges from there allow, which are fewer than there are sheets: so what is still lowered after as many
// tries is lowered by a round of edges, on and on.
func (l looked) highest() (changes, bool) {
	var x changes
	for i, s := range l.Sheets {
		x[i] = s.Most
	}
tries:
	for range api.MaxEdSheets {
		next := l.lowered(x)
		switch {
		case next == x:
			return x, true
		case l.tooLow(next):
			break tries
		}
		x = next
	}
	return changes{}, false
}

// turned returns the case in which just the changes agree that agree in l with their signs turned.
func (l looked) turned() looked {
	for i, w := range l.wants {
		l.wants[i] = api.Span{Lo: -w.Hi, Hi: -w.Lo}
	}
	return l
}
