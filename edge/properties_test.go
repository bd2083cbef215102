package edge_test

import (
	"math"
	"slices"
	"testing"

	"hachure/api"
	"hachure/edge"
)

// ranges returns the Range of each sheet, or none if no changes agree.
func ranges(t *testing.T, c api.EdCase) (list []api.Span) {
	t.Helper()
	for i := range c.Sheets {
		s, e := edge.Range(c, i)
		if e == api.ErrDown && i == 0 {
			return nil
		}
		if e != api.OK {
			t.Fatalf("%v: Range of %d = %v, %d", c, i, s, e)
		}
		list = append(list, s)
	}
	return list
}

// inside reports whether no span of a list is wider than that of another one.
func inside(in, out []api.Span) bool {
	for i := range in {
		if in[i].Lo < out[i].Lo || in[i].Hi > out[i].Hi {
			return false
		}
	}
	return true
}

// P2.7, P2.11: the changes of Least agree, and cost what it says; each number of Range is reached.
func TestReached(t *testing.T) {
	d := dice(5)
	for i := range 200 {
		c, _ := d.tale(d.from(2, 5), d.roll(9), 3, 0)
		x, n, e := edge.Least(c)
		if e != api.OK || len(apart(c, x)) > 0 || n != cost(c, x) {
			t.Fatalf("%d: %v: Least = %v, %d, %d", i, c, x, n, e)
		}
		reached := make([]map[int]bool, len(c.Sheets))
		for j := range reached {
			reached[j] = map[int]bool{}
		}
		for x := range all(c) {
			if len(apart(c, x)) == 0 {
				for j, n := range x {
					reached[j][n] = true
				}
			}
		}
		for j, s := range ranges(t, c) {
			for n := -7; n <= 7; n++ {
				if reached[j][n] != (n >= s.Lo && n <= s.Hi) {
					t.Errorf("%d: %v: Range of %d = %v, and %d is reached: %v", i, c, j, s, n, reached[j][n])
				}
			}
		}
	}
}

// P2.8: no proof has a bound above what any changes cost that agree.
func TestAnyProof(t *testing.T) {
	d := dice(6)
	for i := range 300 {
		c, back := d.tale(d.from(2, 5), d.from(1, 8), 6, 0)
		_, least, e := edge.Least(c)
		if e != api.OK || least > cost(c, back) {
			t.Fatalf("%d: %v: Least = %d, %d; %v costs %d", i, c, least, e, back, cost(c, back))
		}
		best, e := edge.Proof(c)
		if e != api.OK {
			t.Fatalf("%d: %v: Proof = %v, %d", i, c, best, e)
		}
		for range 60 {
			p := slices.Clone(best)
			many := d.from(1, 3)
			for range many {
				p[d.roll(len(p))] += d.from(-3, 3)
			}
			if d.roll(10) == 0 {
				p[d.roll(len(p))] = d.from(-api.MaxEdProof, api.MaxEdProof)
			}
			n, e := edge.Bound(c, p)
			if n != bound(c, p) || e != api.OK || n > least {
				t.Errorf("%d: %v: Bound of %v = %d, %d; Least costs %d", i, c, p, n, e, least)
			}
		}
	}
}

// P2.9: without the edges of Without changes agree; without any fewer, or earlier ones, none do.
func TestNamed(t *testing.T) {
	d := dice(7)
	for i := range 150 {
		c := d.wild(d.from(2, 5), d.from(3, 8), 6, 5)
		list, e := edge.Without(c)
		if e != api.OK || !slices.IsSorted(list) {
			t.Fatalf("%d: %v: Without = %v, %d", i, c, list, e)
		}
		for mask := range 1 << len(c.Edges) {
			var left []int
			rest := clone(c)
			rest.Edges = nil
			for j, o := range c.Edges {
				if mask>>j&1 == 1 {
					left = append(left, j)
				} else {
					rest.Edges = append(rest.Edges, o)
				}
			}
			agree := ranges(t, rest) != nil
			earlier := len(left) < len(list) || len(left) == len(list) && slices.Compare(left, list) < 0
			if earlier && agree || slices.Equal(left, list) && !agree {
				t.Errorf("%d: %v: Without = %v; without %v changes agree: %v", i, c, list, left, agree)
			}
		}
	}
}

// P2.10: the changes that take true shifts back agree, if all points are off by at most half of Tol.
func TestTrueShifts(t *testing.T) {
	d := dice(8)
	for i := range 1000 {
		off := d.roll(26)
		c, back := d.tale(d.from(1, 4)+1, d.roll(9), 6, off)
		c.Tol = 2*off + d.roll(2)*min(1, 50-2*off)
		if n, e := edge.Agrees(c, back); n != -1 || e != api.OK {
			t.Errorf("%d: %v: Agrees = %d, %d", i, c, n, e)
		}
		list := ranges(t, c)
		if list == nil {
			t.Fatalf("%d: %v: no changes agree", i, c)
		}
		for j, s := range list {
			if back[j] < s.Lo || back[j] > s.Hi {
				t.Errorf("%d: %v: Range of %d = %v, not %d", i, c, j, s, back[j])
			}
		}
		if _, n, e := edge.Least(c); n > cost(c, back) || e != api.OK {
			t.Errorf("%d: %v: Least = %d, %d; %v costs %d", i, c, n, e, back, cost(c, back))
		}
		if l, e := edge.Without(c); len(l) > 0 || e != api.OK {
			t.Errorf("%d: %v: Without = %v, %d", i, c, l, e)
		}
	}
}

// P2.12: with one more point, or edge, no Range is wider, and Least costs no less.
func TestOneMore(t *testing.T) {
	d := dice(9)
	kept := 0
	for i := range 1000 {
		c, _ := d.tale(d.from(2, 5), d.from(1, 7), 6, 0)
		more := clone(c)
		if o := &more.Edges[d.roll(len(more.Edges))]; d.roll(2) == 0 && len(o.Points) < 4 {
			p := o.Points[0]
			o.Points = append(o.Points, api.EdPoint{A: p.A + 50, B: p.B + 50 + d.from(-1, 1)})
		} else {
			o := d.edge(len(c.Sheets))
			o.Points = []api.EdPoint{{A: 50, B: 50 + d.from(-3, 3)}}
			more.Edges = append(more.Edges, o)
		}
		after := ranges(t, more)
		if after == nil {
			continue
		}
		kept++
		_, was, _ := edge.Least(c)
		_, is, _ := edge.Least(more)
		if before := ranges(t, c); !inside(after, before) || is < was {
			t.Errorf("%d: %v: %v, %d; %v: %v, %d", i, c, before, was, more, after, is)
		}
	}
	if kept < 300 {
		t.Errorf("%d cases of 1000 agree with one more: too few for a test", kept)
	}
}

// P2.13: with a greater Tol, or Most, no Range is narrower, and Least costs no more; nor with lesser Weights.
func TestWider(t *testing.T) {
	d := dice(10)
	for i := range 1000 {
		c, _ := d.tale(d.from(2, 5), d.roll(9), 5, 0)
		wider := clone(c)
		switch d.roll(3) {
		case 0:
			wider.Tol += d.from(1, 3)
		case 1:
			wider.Sheets[d.roll(len(c.Sheets))].Most++
		case 2:
			s := &wider.Sheets[d.roll(len(c.Sheets))]
			s.Weight = d.from(0, s.Weight)
		}
		before, after := ranges(t, c), ranges(t, wider)
		_, was, e := edge.Least(c)
		_, is, f := edge.Least(wider)
		if before == nil || after == nil || !inside(before, after) || is > was || e != api.OK || f != api.OK {
			t.Errorf("%d: %v: %v, %d, %d; %v: %v, %d, %d", i, c, before, was, e, wider, after, is, f)
		}
	}
}

// answers is what a case is asked for.
type answers struct {
	ranges  []api.Span
	least   []int
	cost    int
	e       api.Errno
	without []int
}

func ask(t *testing.T, c api.EdCase) (a answers) {
	t.Helper()
	a.ranges = ranges(t, c)
	a.least, a.cost, a.e = edge.Least(c)
	a.without, _ = edge.Without(c)
	return a
}

func (a answers) same(b answers) bool {
	return slices.Equal(a.ranges, b.ranges) && slices.Equal(a.least, b.least) && a.cost == b.cost && a.e == b.e && slices.Equal(a.without, b.without)
}

// P2.14: the same number is added to all heights, or one to the heights of one sheet.
func TestRaised(t *testing.T) {
	d := dice(11)
	for i := range 500 {
		c := d.mixed()
		raised, one := clone(c), clone(c)
		by, at, lift := d.from(-50, 500), d.roll(len(c.Sheets)), d.from(-90, 90)
		for j, o := range c.Edges {
			for k := range o.Points {
				raised.Edges[j].Points[k].A += by
				raised.Edges[j].Points[k].B += by
				if o.A == at {
					one.Edges[j].Points[k].A += lift
				}
				if o.B == at {
					one.Edges[j].Points[k].B += lift
				}
			}
		}
		if a, b := ask(t, c), ask(t, raised); !a.same(b) {
			t.Errorf("%d: %v: %v; raised by %d: %v", i, c, a, by, b)
		}
		for j, o := range c.Edges {
			was, e := edge.Wants(c, j)
			all, f := edge.Wants(raised, j)
			is, g := edge.Wants(one, j)
			shift := 0
			if o.A == at {
				shift = -lift
			}
			if o.B == at {
				shift = lift
			}
			if e != api.OK {
				shift = 0
			}
			if all != was || is != span(was.Lo+shift, was.Hi+shift) || f != e || g != e {
				t.Errorf("%d: %v: Wants of %d = %v, %d; raised: %v, %d; one raised: %v, %d", i, c, j, was, e, all, f, is, g)
			}
		}
	}
}

// P2.15: A and B of edges change places.
func TestTurned(t *testing.T) {
	d := dice(12)
	for i := range 500 {
		c := d.mixed()
		turned := clone(c)
		proof := make([]int, len(c.Edges))
		for j := range proof {
			proof[j] = d.from(-9, 9)
		}
		other := slices.Clone(proof)
		for j, o := range c.Edges {
			was, e := edge.Wants(c, j)
			if d.roll(2) == 0 {
				continue
			}
			turned.Edges[j].A, turned.Edges[j].B = o.B, o.A
			for k, p := range o.Points {
				turned.Edges[j].Points[k] = api.EdPoint{A: p.B, B: p.A}
			}
			other[j] = -other[j]
			if s, f := edge.Wants(turned, j); s != span(-was.Hi, -was.Lo) || f != e {
				t.Errorf("%d: %v: Wants of %d = %v, %d; turned: %v, %d", i, c, j, was, e, s, f)
			}
		}
		if a, b := ask(t, c), ask(t, turned); !a.same(b) {
			t.Errorf("%d: %v: %v; turned: %v", i, c, a, b)
		}
		n, e := edge.Bound(c, proof)
		m, f := edge.Bound(turned, other)
		if n != m || e != f {
			t.Errorf("%d: %v: Bound of %v = %d, %d; turned: %v, %d, %d", i, c, proof, n, e, other, m, f)
		}
	}
}

// P2.16: any arguments are accepted.
func TestAnyArguments(t *testing.T) {
	d := dice(13)
	odd := []int{math.MinInt, -9001, -7, -1, 0, 1, 2, 3, 5, 6, 7, 20, 21, 50, 51, 9000, 9001, math.MaxInt}
	pick := func() int { return odd[d.roll(len(odd))] }
	names := []string{"", "a", "b", "c", "-", "\xff\xfe", "A"}
	for range 5000 {
		c := api.EdCase{Tol: d.roll(50)}
		for range d.roll(7) {
			c.Sheets = append(c.Sheets, api.EdSheet{Name: names[d.roll(len(names))], Weight: pick(), Most: pick()})
		}
		if d.roll(2) == 0 {
			c.Sheets = survey().Sheets
		}
		for range d.roll(11) {
			o := api.EdEdge{A: pick(), B: pick()}
			for range d.roll(6) {
				o.Points = append(o.Points, api.EdPoint{A: pick(), B: pick()})
			}
			c.Edges = append(c.Edges, o)
		}
		_, _, e := edge.Check(c)
		checkErrors(t, "odd numbers", c, e)
	}
	for range 500 {
		c := torn()
		list := make([]int, d.roll(6))
		for i := range list {
			list[i] = pick()
		}
		edge.Agrees(c, list)
		edge.Cost(c, list)
		edge.Bound(c, list)
		edge.Wants(c, pick())
		edge.Range(c, pick())
	}
}

// P2.16: no argument is modified, and a result is new memory.
func TestMemory(t *testing.T) {
	for _, c := range []api.EdCase{survey(), torn()} {
		// The edges have room behind them, where nothing may be written.
		room := append(slices.Clone(c.Edges), join(2, 1, 7, 7))
		c.Edges = room[:len(c.Edges)]
		was, x, proof := clone(c), []int{3, 0, -1}, make([]int, len(c.Edges))
		edge.Check(c)
		edge.Wants(c, 0)
		edge.Agrees(c, x)
		edge.Cost(c, x)
		edge.Bound(c, proof)
		edge.Range(c, 0)
		least, _, _ := edge.Least(c)
		p, _ := edge.Proof(c)
		l, _ := edge.Without(c)
		if !same(c, was) || !slices.Equal(x, []int{3, 0, -1}) || slices.Max(proof) != 0 || room[len(room)-1].A != 2 {
			t.Errorf("%v is %v; %v, %v", was, c, x, proof)
		}
		firstLeast, firstProof, firstList := slices.Clone(least), slices.Clone(p), slices.Clone(l)
		for _, list := range [][]int{least, p, l} {
			for i := range list {
				list[i] = 99
			}
		}
		least, _, _ = edge.Least(c)
		p, _ = edge.Proof(c)
		l, _ = edge.Without(c)
		if !same(c, was) || !slices.Equal(least, firstLeast) || !slices.Equal(p, firstProof) || !slices.Equal(l, firstList) {
			t.Errorf("later results changed: %v, %v, %v", least, p, l)
		}
	}
}
