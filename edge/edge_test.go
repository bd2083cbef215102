package edge_test

import (
	"math"
	"slices"
	"strings"
	"testing"

	"hachure/api"
	"hachure/edge"
)

// fault is a change of the sample, and what Check says of it.
type fault struct {
	what     string
	change   func(c *api.EdCase)
	part, at int
	e        api.Errno
}

// caseFaults are those of a case, and of its sheets.
func caseFaults() []fault {
	nine := make([]api.EdEdge, 9)
	return []fault{
		{"the sample", func(c *api.EdCase) {}, 0, 0, api.OK},
		{"a Tol below 0", func(c *api.EdCase) { c.Tol, c.Sheets, c.Edges = -1, nil, nine }, 1, 0, api.ErrRange},
		{"a Tol too great", func(c *api.EdCase) { c.Tol, c.Sheets = 51, nil }, 1, 0, api.ErrRange},
		{"the least int as Tol", func(c *api.EdCase) { c.Tol = math.MinInt }, 1, 0, api.ErrRange},
		{"the least Tol", func(c *api.EdCase) { c.Tol = 0 }, 0, 0, api.OK},
		{"the greatest Tol", func(c *api.EdCase) { c.Tol = 50 }, 0, 0, api.OK},
		{"no sheets", func(c *api.EdCase) { c.Sheets, c.Edges = nil, nil }, 1, 0, api.ErrLong},
		{"six sheets, all wrong", func(c *api.EdCase) { c.Sheets = make([]api.EdSheet, 6) }, 1, 0, api.ErrLong},
		{"five sheets", func(c *api.EdCase) { c.Sheets = append(c.Sheets, api.EdSheet{Name: "d"}, api.EdSheet{Name: "e"}) }, 0, 0, api.OK},
		{"one sheet, no edges", func(c *api.EdCase) { c.Sheets, c.Edges = c.Sheets[:1], nil }, 0, 0, api.OK},
		{"nine edges, before sheets", func(c *api.EdCase) { c.Sheets[0].Name, c.Edges = "", nine }, 1, 0, api.ErrLong},
		{"eight edges", func(c *api.EdCase) { c.Edges = append(slices.Repeat(c.Edges, 2), c.Edges[:2]...) }, 0, 0, api.OK},
		{"no name", func(c *api.EdCase) { c.Sheets[0] = api.EdSheet{Weight: -1} }, 2, 0, api.ErrForm},
		{"a name with a capital", func(c *api.EdCase) { c.Sheets[2].Name = "South" }, 2, 2, api.ErrForm},
		{"a long name", func(c *api.EdCase) { c.Sheets[1].Name = strings.Repeat("m", 17) }, 2, 1, api.ErrForm},
		{"the longest name", func(c *api.EdCase) { c.Sheets[1].Name = strings.Repeat("m", 16) }, 0, 0, api.OK},
		{"no name twice", func(c *api.EdCase) { c.Sheets[1].Name, c.Sheets[2].Name = "-", "-" }, 2, 1, api.ErrForm},
		{"a name twice", func(c *api.EdCase) { c.Sheets[2] = api.EdSheet{Name: "north", Weight: 21} }, 2, 2, api.ErrTwice},
		{"a name twice, beside it", func(c *api.EdCase) { c.Sheets[2].Name = "mid" }, 2, 2, api.ErrTwice},
		{"the first sheet decides", func(c *api.EdCase) { c.Sheets[1].Most, c.Sheets[2].Name = 7, "" }, 2, 1, api.ErrRange},
		{"a Weight below 0", func(c *api.EdCase) { c.Sheets[1].Weight = -1 }, 2, 1, api.ErrRange},
		{"a Weight too great", func(c *api.EdCase) { c.Sheets[2].Weight = 21 }, 2, 2, api.ErrRange},
		{"a Most below 0", func(c *api.EdCase) { c.Sheets[0].Most = -1 }, 2, 0, api.ErrRange},
		{"a Most too great", func(c *api.EdCase) { c.Sheets[0].Most = math.MaxInt }, 2, 0, api.ErrRange},
		{"the least sheet", func(c *api.EdCase) { c.Sheets[0].Weight, c.Sheets[0].Most = 0, 0 }, 0, 0, api.OK},
		{"the greatest sheet", func(c *api.EdCase) { c.Sheets[0].Weight, c.Sheets[0].Most = 20, 6 }, 0, 0, api.OK},
		{"sheets before edges", func(c *api.EdCase) { c.Sheets[2].Weight, c.Edges[0].A = 21, 3 }, 2, 2, api.ErrRange},
	}
}

// edgeFaults are those of edges.
func edgeFaults() []fault {
	big, small := math.MaxInt, math.MinInt
	five := make([]api.EdPoint, 5)
	return []fault{
		{"A below 0", func(c *api.EdCase) { c.Edges[1] = api.EdEdge{A: -1, B: -1} }, 3, 1, api.ErrNone},
		{"A too great", func(c *api.EdCase) { c.Edges[1].A = 3 }, 3, 1, api.ErrNone},
		{"B below 0", func(c *api.EdCase) { c.Edges[2].B = small }, 3, 2, api.ErrNone},
		{"B too great", func(c *api.EdCase) { c.Edges[0].B = big }, 3, 0, api.ErrNone},
		{"A and B too great", func(c *api.EdCase) { c.Edges[0].A, c.Edges[0].B = 4, 4 }, 3, 0, api.ErrNone},
		{"A is B", func(c *api.EdCase) { c.Edges[0] = api.EdEdge{A: 2, B: 2} }, 3, 0, api.ErrArg},
		{"no points", func(c *api.EdCase) { c.Edges[2].Points = nil }, 3, 2, api.ErrLong},
		{"five points", func(c *api.EdCase) { five[0].A = -1; c.Edges[2].Points = five }, 3, 2, api.ErrLong},
		{"four points", func(c *api.EdCase) { c.Edges[2].Points = make([]api.EdPoint, 4) }, 0, 0, api.OK},
		{"a height below 0 on A", func(c *api.EdCase) { c.Edges[0].Points[1].A = -1 }, 3, 0, api.ErrRange},
		{"a height below 0 on B", func(c *api.EdCase) { c.Edges[0].Points[0].B = small }, 3, 0, api.ErrRange},
		{"a height too great on A", func(c *api.EdCase) { c.Edges[1].Points[0].A = 9001 }, 3, 1, api.ErrRange},
		{"a height too great on B", func(c *api.EdCase) { c.Edges[1].Points[0].B = big }, 3, 1, api.ErrRange},
		{"the least and the greatest height", func(c *api.EdCase) { c.Edges[1].Points[0] = api.EdPoint{A: 9000} }, 0, 0, api.OK},
		{"an edge that contradicts itself", func(c *api.EdCase) { c.Edges[0].Points[0].B = 9000 }, 0, 0, api.OK},
		{"the first edge decides", func(c *api.EdCase) { c.Edges[0].Points[0].A, c.Edges[1].A = -1, -1 }, 3, 0, api.ErrRange},
	}
}

// P2.1: parts, indices, errors, and which one comes first.
func TestCheck(t *testing.T) {
	for _, f := range append(caseFaults(), edgeFaults()...) {
		c := survey()
		f.change(&c)
		if part, at, e := edge.Check(c); part != f.part || at != f.at || e != f.e {
			t.Errorf("%s: Check = %d, %d, %d", f.what, part, at, e)
		}
		checkErrors(t, f.what, c, f.e)
	}
}

// checkErrors checks that each function returns the error of Check first, and nothing else with it.
func checkErrors(t *testing.T, what string, c api.EdCase, e api.Errno) {
	t.Helper()
	if e == api.OK {
		return
	}
	if s, f := edge.Wants(c, -1); s != span(0, 0) || f != e {
		t.Errorf("%s: Wants = %v, %d", what, s, f)
	}
	for _, list := range [][]int{nil, {7, 7, 7}, {0, 0, 0}} {
		if n, f := edge.Agrees(c, list); n != 0 || f != e {
			t.Errorf("%s: Agrees = %d, %d", what, n, f)
		}
		if n, f := edge.Cost(c, list); n != 0 || f != e {
			t.Errorf("%s: Cost = %d, %d", what, n, f)
		}
		if n, f := edge.Bound(c, list); n != 0 || f != e {
			t.Errorf("%s: Bound = %d, %d", what, n, f)
		}
	}
	if s, f := edge.Range(c, 99); s != span(0, 0) || f != e {
		t.Errorf("%s: Range = %v, %d", what, s, f)
	}
	if x, n, f := edge.Least(c); len(x) > 0 || n != 0 || f != e {
		t.Errorf("%s: Least = %v, %d, %d", what, x, n, f)
	}
	if p, f := edge.Proof(c); len(p) > 0 || f != e {
		t.Errorf("%s: Proof = %v, %d", what, p, f)
	}
	if l, f := edge.Without(c); len(l) > 0 || f != e {
		t.Errorf("%s: Without = %v, %d", what, l, f)
	}
}

// The examples of the chapter, and the second one of the document.
func TestExamples(t *testing.T) {
	c, d := survey(), torn()
	for i, want := range []api.Span{span(3, 4), span(1, 3), span(4, 6)} {
		if s, e := edge.Wants(c, i); s != want || e != api.OK {
			t.Errorf("Wants of %d = %v, %d", i, s, e)
		}
	}
	for _, o := range []struct {
		x    []int
		want int
	}{{[]int{0, 0, 0}, 0}, {[]int{4, 0, 0}, 1}, {[]int{3, 0, -1}, -1}} {
		if n, e := edge.Agrees(c, o.x); n != o.want || e != api.OK {
			t.Errorf("Agrees of %v = %d, %d", o.x, n, e)
		}
	}
	if n, e := edge.Cost(c, []int{3, 0, -1}); n != 7 || e != api.OK {
		t.Errorf("Cost = %d, %d", n, e)
	}
	for i, want := range []api.Span{span(-2, 6), span(-5, 3), span(-6, 2)} {
		if s, e := edge.Range(c, i); s != want || e != api.OK {
			t.Errorf("Range of %d = %v, %d", i, s, e)
		}
	}
	if x, n, e := edge.Least(c); !slices.Equal(x, []int{3, 0, -1}) || n != 7 || e != api.OK {
		t.Errorf("Least = %v, %d, %d", x, n, e)
	}
	if x, n, e := edge.Least(d); len(x) > 0 || n != 0 || e != api.ErrDown {
		t.Errorf("Least of D = %v, %d, %d", x, n, e)
	}
	for _, o := range []struct {
		c     api.EdCase
		proof []int
		want  int
	}{{c, []int{1, 0, 1}, 7}, {c, []int{3, 0, 0}, 3}, {c, []int{-1, 0, 0}, -4}, {d, []int{0, 0, 13, -13}, 39}} {
		if n, e := edge.Bound(o.c, o.proof); n != o.want || e != api.OK {
			t.Errorf("Bound of %v = %d, %d", o.proof, n, e)
		}
	}
	if l, e := edge.Without(c); len(l) > 0 || e != api.OK {
		t.Errorf("Without of C = %v, %d", l, e)
	}
	if l, e := edge.Without(d); !slices.Equal(l, []int{3}) || e != api.OK {
		t.Errorf("Without of D = %v, %d", l, e)
	}
	if dearest(d) != 36 {
		t.Errorf("all sheets of D cost %d", dearest(d))
	}
}

// P2.2
func TestWants(t *testing.T) {
	for i, o := range []struct {
		tol  int
		d    api.EdEdge
		want api.Span
		e    api.Errno
	}{
		{0, join(0, 1, 5, 5), span(0, 0), api.OK},
		{0, join(0, 1, 5, 8), span(3, 3), api.OK},
		{0, join(1, 0, 5, 8, 9, 12), span(3, 3), api.OK},
		{0, join(0, 1, 5, 8, 9, 13), span(0, 0), api.ErrDown},
		{1, join(0, 1, 5, 8, 9, 13), span(3, 4), api.OK},
		{1, join(0, 1, 5, 8, 9, 14), span(4, 4), api.OK},
		{1, join(0, 1, 9, 14, 5, 8, 7, 11), span(4, 4), api.OK},
		{1, join(0, 1, 5, 8, 9, 15), span(0, 0), api.ErrDown},
		{50, join(0, 1, 0, 9000), span(8950, 9050), api.OK},
		{50, join(0, 1, 9000, 0), span(-9050, -8950), api.OK},
		{50, join(0, 1, 9000, 0, 9000, 100), span(-8950, -8950), api.OK},
		{50, join(0, 1, 9000, 0, 0, 9000), span(0, 0), api.ErrDown},
		{0, join(0, 1, 9000, 9000, 0, 0, 1, 1, 2, 2), span(0, 0), api.OK},
	} {
		c := plain(o.d)
		c.Tol = o.tol
		if s, e := edge.Wants(c, 0); s != o.want || e != o.e {
			t.Errorf("%d: Wants = %v, %d", i, s, e)
		}
	}
	c := torn(join(0, 1, 5, 8, 9, 19))
	for _, at := range []int{-1, 5, 8, math.MinInt, math.MaxInt} {
		if s, e := edge.Wants(c, at); s != span(0, 0) || e != api.ErrNone {
			t.Errorf("Wants of %d = %v, %d", at, s, e)
		}
	}
	if s, e := edge.Wants(plain(), 0); s != span(0, 0) || e != api.ErrNone {
		t.Errorf("Wants without edges = %v, %d", s, e)
	}
	dice := dice(1)
	for i := range 200 {
		c, _ := dice.tale(2, 1, 6, dice.roll(4))
		list := wants(c, c.Edges[0])
		s, e := edge.Wants(c, 0)
		if len(list) == 0 {
			if s != span(0, 0) || e != api.ErrDown {
				t.Errorf("%d: %v: Wants = %v, %d", i, c, s, e)
			}
			continue
		}
		if s != span(list[0], list[len(list)-1]) || e != api.OK || len(list) != s.Hi-s.Lo+1 {
			t.Errorf("%d: %v: Wants = %v, %d; tried: %v", i, c, s, e, list)
		}
	}
}

// P2.3: the error of changes.
func TestErrorOfChanges(t *testing.T) {
	c := survey()
	c.Sheets[1].Most = 2
	for _, o := range []struct {
		x []int
		e api.Errno
	}{
		{nil, api.ErrLong}, {[]int{0, 0}, api.ErrLong}, {[]int{7, 7, 7, 7}, api.ErrLong}, {make([]int, 1000), api.ErrLong},
		{[]int{7, 0, 0}, api.ErrRange}, {[]int{-7, 0, 0}, api.ErrRange}, {[]int{0, 3, 0}, api.ErrRange}, {[]int{0, -3, 0}, api.ErrRange},
		{[]int{0, 0, math.MaxInt}, api.ErrRange}, {[]int{0, 0, math.MinInt}, api.ErrRange},
		{[]int{6, 2, 6}, api.OK}, {[]int{-6, -2, -6}, api.OK},
	} {
		n, e := edge.Agrees(c, o.x)
		m, f := edge.Cost(c, o.x)
		if e != o.e || f != o.e || e != api.OK && (n != 0 || m != 0) {
			t.Errorf("%v: Agrees = %d, %d; Cost = %d, %d", o.x, n, e, m, f)
		}
	}
}

// P2.3: against each point of each edge.
func TestAgreesAndCost(t *testing.T) {
	d := dice(2)
	agreed := 0
	for i := range 2000 {
		c := d.mixed()
		x := make([]int, len(c.Sheets))
		for j, s := range c.Sheets {
			x[j] = d.from(-s.Most, s.Most)
		}
		want := -1
		if list := apart(c, x); len(list) > 0 {
			want = list[0]
		} else {
			agreed++
		}
		n, e := edge.Agrees(c, x)
		m, f := edge.Cost(c, x)
		if n != want || e != api.OK || m != cost(c, x) || f != api.OK {
			t.Errorf("%d: %v with %v: Agrees = %d, %d; Cost = %d, %d", i, c, x, n, e, m, f)
		}
	}
	if agreed < 200 || agreed > 1800 {
		t.Errorf("%d changes of 2000 agree: too few, or too many, for a test", agreed)
	}
	if n, e := edge.Agrees(plain(), []int{1, 2, -2}); n != -1 || e != api.OK {
		t.Errorf("Agrees without edges = %d, %d", n, e)
	}
}

// P2.4, P2.5, P2.6, P2.7, P2.8, P2.9, P2.11: against all changes of small cases.
func TestAllChanges(t *testing.T) {
	d := dice(3)
	agree := 0
	for i := range 1500 {
		c := d.mixed()
		r := try(c)
		if r.any {
			agree++
		}
		checkTried(t, i, c, r)
	}
	if agree < 300 || agree > 1200 {
		t.Errorf("%d cases of 1500 agree: too few, or too many, for a test", agree)
	}
}

// The same with as many changes as there can be.
func TestGreatCases(t *testing.T) {
	d := dice(4)
	for i := range 6 {
		c, _ := d.tale(5, 4+i%5, 6, i%2)
		for j := range c.Sheets {
			c.Sheets[j].Most, c.Sheets[j].Weight = 6, d.roll(21)
		}
		checkTried(t, i, c, try(c))
	}
}

func checkTried(t *testing.T, i int, c api.EdCase, r tried) {
	t.Helper()
	want := api.OK
	if !r.any {
		want = api.ErrDown
		r.ranges = make([]api.Span, len(c.Sheets))
	}
	for j := range c.Sheets {
		if s, e := edge.Range(c, j); s != r.ranges[j] || e != want {
			t.Errorf("%d: %v: Range of %d = %v, %d; tried: %v", i, c, j, s, e, r.ranges[j])
		}
	}
	if x, n, e := edge.Least(c); !slices.Equal(x, r.least) || n != r.cost || e != want {
		t.Errorf("%d: %v: Least = %v, %d, %d; tried: %v, %d", i, c, x, n, e, r.least, r.cost)
	}
	if l, e := edge.Without(c); !slices.Equal(l, r.without) || e != api.OK {
		t.Errorf("%d: %v: Without = %v, %d; tried: %v", i, c, l, e, r.without)
	}
	checkProof(t, i, c, r)
}

// checkProof checks Proof, and the bound that it has.
func checkProof(t *testing.T, i int, c api.EdCase, r tried) {
	t.Helper()
	torn := slices.ContainsFunc(c.Edges, func(d api.EdEdge) bool { return len(wants(c, d)) == 0 })
	p, e := edge.Proof(c)
	if torn {
		if len(p) > 0 || e != api.ErrDown {
			t.Errorf("%d: %v: Proof = %v, %d", i, c, p, e)
		}
		return
	}
	if e != api.OK || len(p) != len(c.Edges) {
		t.Fatalf("%d: %v: Proof = %v, %d", i, c, p, e)
	}
	n, f := edge.Bound(c, p)
	if n != bound(c, p) || f != api.OK {
		t.Errorf("%d: %v: Bound of %v = %d, %d", i, c, p, n, f)
	}
	if r.any && n != r.cost || !r.any && n <= dearest(c) {
		t.Errorf("%d: %v: Proof = %v, with the bound %d; tried: %d; all cost %d", i, c, p, n, r.cost, dearest(c))
	}
}

// P2.4: the order of the errors of Range, and its ends.
func TestRange(t *testing.T) {
	for i, o := range []struct {
		c    api.EdCase
		at   int
		want api.Span
		e    api.Errno
	}{
		{torn(), 3, span(0, 0), api.ErrNone},
		{torn(), -1, span(0, 0), api.ErrNone},
		{torn(), math.MaxInt, span(0, 0), api.ErrNone},
		{torn(), math.MinInt, span(0, 0), api.ErrNone},
		{torn(), 0, span(0, 0), api.ErrDown},
		{plain(), 2, span(-2, 2), api.OK},
		{plain(join(0, 1, 5, 5)), 2, span(-2, 2), api.OK},
		{plain(join(0, 1, 5, 8)), 0, span(1, 2), api.OK},
		{plain(join(0, 1, 5, 8)), 1, span(-2, -1), api.OK},
		{plain(join(0, 1, 5, 9)), 0, span(2, 2), api.OK},
		{plain(join(0, 1, 5, 10)), 2, span(0, 0), api.ErrDown},
		{plain(join(0, 1, 5, 5, 6, 7)), 2, span(0, 0), api.ErrDown},
		{plain(join(0, 1, 5, 7), join(1, 2, 5, 7)), 1, span(0, 0), api.OK},
		{plain(join(0, 1, 5, 7), join(1, 2, 5, 8)), 1, span(0, 0), api.ErrDown},
		{plain(join(0, 1, 5, 5), join(1, 2, 5, 5), join(2, 0, 5, 6)), 0, span(0, 0), api.ErrDown},
		{plain(join(0, 1, 0, 9000)), 0, span(0, 0), api.ErrDown},
	} {
		if s, e := edge.Range(o.c, o.at); s != o.want || e != o.e {
			t.Errorf("%d: Range = %v, %d", i, s, e)
		}
	}
}

// P2.4: what the last sheet allows goes from edge to edge to the first one, in whichever order they stand.
func TestLongChain(t *testing.T) {
	c := api.EdCase{}
	for i := range 5 {
		c.Sheets = append(c.Sheets, api.EdSheet{Name: string(rune('a' + i)), Weight: 1, Most: 6})
	}
	for i := range 4 {
		c.Edges = append(c.Edges, join(i, i+1, 10, 11))
	}
	back := clone(c)
	slices.Reverse(back.Edges)
	for i, o := range []api.EdCase{c, back} {
		for at, want := range []int{4, 3, 2, 1, 0} {
			high, low := clone(o), clone(o)
			high.Sheets[4].Most = 0
			low.Sheets[0].Most = 0
			if s, e := edge.Range(high, at); s != span(want, want) || e != api.OK {
				t.Errorf("%d: Range of %d = %v, %d", i, at, s, e)
			}
			if s, e := edge.Range(low, at); s != span(want-4, want-4) || e != api.OK {
				t.Errorf("%d: Range of %d = %v, %d", i, at, s, e)
			}
		}
	}
}

// P2.4: of several changes that cost least the first ones.
func TestWhichChanges(t *testing.T) {
	free := plain(join(0, 1, 5, 6))
	free.Sheets[0].Weight, free.Sheets[1].Weight, free.Sheets[2].Weight = 0, 0, 0
	heavy := plain(join(1, 0, 5, 8), join(2, 1, 4, 4))
	heavy.Sheets[0].Weight = 2
	fixed := plain(join(0, 1, 5, 7))
	fixed.Sheets[0].Most = 0
	for i, o := range []struct {
		c    api.EdCase
		want []int
		cost int
	}{
		{plain(), []int{0, 0, 0}, 0},
		{plain(join(0, 1, 5, 6)), []int{0, -1, 0}, 1},
		{plain(join(1, 0, 5, 6)), []int{-1, 0, 0}, 1},
		{plain(join(0, 1, 5, 8)), []int{1, -2, 0}, 3},
		{plain(join(2, 1, 5, 8)), []int{0, -2, 1}, 3},
		{plain(join(1, 2, 5, 8), join(0, 2, 5, 8)), []int{1, 1, -2}, 4},
		{free, []int{-1, -2, -2}, 0},
		{heavy, []int{-2, 1, 1}, 6},
		{fixed, []int{0, -2, 0}, 2},
	} {
		if x, n, e := edge.Least(o.c); !slices.Equal(x, o.want) || n != o.cost || e != api.OK {
			t.Errorf("%d: Least = %v, %d, %d", i, x, n, e)
		}
	}
}

// P2.5: the errors of Bound, and their order.
func TestBoundErrors(t *testing.T) {
	c := survey()
	self := survey(join(0, 1, 5, 8, 9, 19))
	for i, o := range []struct {
		c     api.EdCase
		proof []int
		want  int
		e     api.Errno
	}{
		{c, nil, 0, api.ErrLong},
		{c, []int{0, 0}, 0, api.ErrLong},
		{c, []int{0, 0, 0, 100001}, 0, api.ErrLong},
		{self, []int{0, 0, 0}, 0, api.ErrLong},
		{c, []int{100001, 0, 0}, 0, api.ErrRange},
		{c, []int{0, 0, -100001}, 0, api.ErrRange},
		{c, []int{0, math.MinInt, 0}, 0, api.ErrRange},
		{self, []int{0, 0, 0, math.MaxInt}, 0, api.ErrRange},
		{self, []int{0, 0, 0, 0}, 0, api.ErrDown},
		{c, []int{0, 0, 0}, 0, api.OK},
		{c, []int{100000, 0, 0}, 100000*3 - 6*(99998+99997), api.OK},
		{c, []int{-100000, 0, 0}, -100000*4 - 6*(99998+99997), api.OK},
		{c, []int{2, 0, 0}, 6, api.OK},
		{c, []int{0, 0, 2}, 2*4 - 6, api.OK},
		{c, []int{0, 1, -1}, 1 - 6, api.OK},
		{c, []int{-2, 0, -2}, -2*4 - 2*6 - 6*2 - 6, api.OK},
		{plain(), nil, 0, api.OK},
	} {
		if n, e := edge.Bound(o.c, o.proof); n != o.want || e != o.e {
			t.Errorf("%d: Bound of %v = %d, %d", i, o.proof, n, e)
		}
	}
	if p, e := edge.Proof(self); len(p) > 0 || e != api.ErrDown {
		t.Errorf("Proof = %v, %d", p, e)
	}
	if p, e := edge.Proof(plain()); len(p) > 0 || e != api.OK {
		t.Errorf("Proof without edges = %v, %d", p, e)
	}
}

// P2.5, P2.8: a proof where as little as can be is wrong, and all sheets are as dear as they can be.
func TestHardProofs(t *testing.T) {
	c := api.EdCase{}
	for i := range 5 {
		c.Sheets = append(c.Sheets, api.EdSheet{Name: string(rune('a' + i)), Weight: 20, Most: 6})
	}
	round, path := clone(c), clone(c)
	for i := range 5 {
		round.Edges = append(round.Edges, join(i, (i+1)%5, 10, 10+i%4/3))
	}
	for i := range 4 {
		path.Edges = append(path.Edges, join(i, i+1, 10, 13), join(i+1, i, 23, 20))
	}
	path.Edges[7] = join(3, 4, 10, 13, 40, 43)
	path.Sheets[0].Most = 5
	many := clone(c)
	for range 8 {
		many.Edges = append(many.Edges, join(0, 1, 10, 23))
	}
	for i, o := range []api.EdCase{round, path, many} {
		checkProof(t, i, o, tried{})
		if x, n, e := edge.Least(o); len(x) > 0 || n != 0 || e != api.ErrDown {
			t.Errorf("%d: Least = %v, %d, %d", i, x, n, e)
		}
	}
	path.Sheets[0].Most = 6
	checkProof(t, 9, path, tried{any: true, cost: 20 * (6 + 3 + 3 + 6)})
	if x, n, e := edge.Least(path); !slices.Equal(x, []int{6, 3, 0, -3, -6}) || n != 360 || e != api.OK {
		t.Errorf("Least = %v, %d, %d", x, n, e)
	}
}

// P2.6: the first one of several lists, and edges that contradict themselves.
func TestWhichEdges(t *testing.T) {
	self := join(1, 2, 5, 5, 6, 7)
	for i, o := range []struct {
		c    api.EdCase
		want []int
	}{
		{plain(), nil},
		{plain(self), []int{0}},
		{plain(join(0, 1, 5, 5), self, self), []int{1, 2}},
		{plain(join(0, 1, 5, 5), join(0, 1, 5, 6)), []int{0}},
		{plain(join(0, 1, 5, 5), join(0, 1, 5, 6), join(1, 0, 6, 5)), []int{0}},
		{plain(join(0, 1, 5, 6), join(0, 1, 5, 5), join(1, 0, 6, 5)), []int{1}},
		{plain(join(0, 1, 5, 5), join(0, 1, 5, 6), join(1, 0, 5, 5), join(1, 0, 6, 5)), []int{0, 2}},
		{plain(join(0, 1, 0, 5)), []int{0}},
		{plain(join(0, 1, 5, 5), join(1, 2, 5, 5), join(2, 0, 5, 6)), []int{0}},
		{plain(join(2, 1, 1, 1), join(0, 1, 5, 7), join(1, 2, 5, 8)), []int{2}},
		{plain(join(0, 1, 5, 9), join(1, 2, 5, 8), join(2, 1, 1, 1), join(0, 2, 5, 5)), []int{0, 1}},
		{plain(slices.Repeat([]api.EdEdge{self}, 8)...), []int{0, 1, 2, 3, 4, 5, 6, 7}},
	} {
		if l, e := edge.Without(o.c); !slices.Equal(l, o.want) || e != api.OK {
			t.Errorf("%d: Without = %v, %d", i, l, e)
		}
	}
}
