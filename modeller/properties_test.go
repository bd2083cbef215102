package modeller_test

import (
	"reflect"
	"slices"
	"strings"
	"testing"

	"hachure/api"
	"hachure/modeller"
)

func has(s api.Span, n int) bool { return s.Lo <= n && n <= s.Hi }

// inside reports whether a span has all numbers of another one.
func inside(outer, inner api.Span) bool { return has(outer, inner.Lo) && has(outer, inner.Hi) }

// asks reports whether a line asks, by its first word.
func asks(line string) bool {
	first, _, _ := strings.Cut(line, " ")
	_, is := asking()[first]
	return is
}

// P13.2, P13.3: Line and Work do what is found with tables of words, and by the functions of the layers.
func TestAnyLines(t *testing.T) {
	d := dice(1)
	refused, kept, told := map[api.Errno]int{}, 0, 0
	for range 400 {
		s, w := d.shop()
		lines := d.lines(s, w, d.from(1, 45))
		want, wants := fresh(s), []string(nil)
		for _, line := range lines {
			next, answer, e := expected(want, line)
			checkLine(t, "any", want, line, next, answer, e)
			switch {
			case e != api.OK:
				next, answer = want, "error "+words(int(e))
				refused[e]++
			case asks(line):
				told++
			default:
				kept++
			}
			want, wants = next, append(wants, answer)
		}
		if b, answers := worked(t, s, lines); !same(b, want) || !slices.Equal(answers, wants) {
			t.Errorf("%v: %q: Work = %q, not %q", s, lines, answers, wants)
		}
	}
	for _, e := range []api.Errno{api.ErrArg, api.ErrLong, api.ErrNone, api.ErrForm, api.ErrRange, api.ErrZero, api.ErrDown} {
		if refused[e] < 20 {
			t.Errorf("too few lines have the error %d: %d", e, refused[e])
		}
	}
	if kept < 1000 || told < 500 {
		t.Errorf("too few lines: %d are kept, %d ask", kept, told)
	}
}

// P13.6: lines that ask, and that are refused, can as well be left out. The others are the Log.
func TestKept(t *testing.T) {
	d := dice(2)
	for range 300 {
		s, w := d.shop()
		lines := d.lines(s, w, d.from(1, 40))
		b, answers := worked(t, s, lines)
		var kept []string
		for i, line := range lines {
			if asks(line) || strings.HasPrefix(answers[i], "error ") {
				continue
			}
			if answers[i] != "" {
				t.Errorf("%q has the answer %q", line, answers[i])
			}
			kept = append(kept, line)
		}
		again, answers := worked(t, s, kept)
		if !same(again, b) || !slices.Equal(b.Log, kept) || slices.ContainsFunc(answers, func(a string) bool { return a != "" }) {
			t.Errorf("%q: %v, %q, not %v", kept, again, answers, b)
		}
	}
}

// checkTruth checks that what is so is among what the books answer.
func checkTruth(t *testing.T, b api.MdBooks, w truth) {
	t.Helper()
	s := b.Shop
	holds := func(line string, n int) {
		t.Helper()
		if by := spanAsked(t, b, line); !has(by, n) {
			t.Errorf("%q: %q: %v, but it is %d", b.Log, line, by, n)
		}
	}
	for i, name := range s.Sheet.Points {
		holds("height "+name, w.heights[i])
		holds(words("apart", s.Sheet.Points[0], name), w.heights[0]-w.heights[i])
	}
	for i, k := range s.Stack.Kinds {
		holds("thick "+k.Name, w.thick[i])
	}
	for i, m := range s.Moulds.Moulds {
		for cast := range m.Casts {
			holds(words("size", m.Name, cast), w.size(i, cast))
		}
	}
	for i, c := range s.Claim.Causes {
		answer := asked(t, b, "cause "+c.Name)
		if w.amounts[i] > 0 && answer == "none" || w.amounts[i] == 0 && answer == "must" {
			t.Errorf("%q: of %s there is %d, but the answer is %q", b.Log, c.Name, w.amounts[i], answer)
		}
	}
}

// P13.7: no line that is true contradicts, and what is so stays possible.
func TestTrueLines(t *testing.T) {
	d := dice(3)
	kept, full := 0, 0
	for range 150 {
		s, w := d.shop()
		b := fresh(s)
		for range d.from(1, 40) {
			line := d.trueLine(s, w)
			after, _, e := modeller.Line(b, line)
			switch e {
			case api.OK:
				b = after
				kept++
			case api.ErrLong:
				full++
			default:
				t.Fatalf("%v: %q is true, but has the error %d", b, line, e)
			}
			if d.roll(5) == 0 {
				checkTruth(t, b, w)
			}
		}
		checkTruth(t, b, w)
	}
	if kept < 1000 || full < 100 {
		t.Errorf("%d lines are kept, %d are too many", kept, full)
	}
}

// P13.8, P13.9: from its file a model is cut again, to the same heights, and the file is written again.
func TestAgainTheSame(t *testing.T) {
	d := dice(4)
	cut := 0
	for range 400 {
		s, w := d.shop()
		b, _ := worked(t, s, d.lines(s, w, d.from(0, 60)))
		file, e := modeller.File(b)
		if e != api.OK {
			t.Fatalf("%v: File: %d", b, e)
		}
		again, e := modeller.Again(s, file)
		if !same(again, b) || e != api.OK {
			t.Fatalf("%q: Again = %v, %d, not %v", file, again, e, b)
		}
		checkFile(t, "again", again, file)
		scale, cuts, e := modeller.Model(b)
		checkModel(t, "again", again, scale, cuts, e)
		if e == api.OK {
			cut++
		}
	}
	if cut < 200 {
		t.Errorf("only %d models are cut", cut)
	}
}

// P13.4: Again of any lines, by those that are kept.
func TestAgainAny(t *testing.T) {
	d := dice(5)
	fine, bad := 0, 0
	for range 600 {
		s, w := d.shop()
		lines := d.lines(s, w, d.roll(8))
		if d.roll(3) > 0 {
			lines = slices.DeleteFunc(lines, asks)
		}
		want, wrong := fresh(s), api.OK
		file := ""
		for _, line := range lines {
			file += line + "\n"
		}
		for _, line := range strings.Split(strings.TrimSuffix(file, "\n"), "\n") {
			if wrong != api.OK || file == "" {
				break
			}
			next, _, e := expected(want, line)
			if e == api.OK && asks(line) {
				e = api.ErrArg
			}
			want, wrong = next, e
		}
		if wrong != api.OK {
			want = api.MdBooks{}
			bad++
		} else {
			fine++
		}
		if b, e := modeller.Again(s, file); !same(b, want) || e != wrong {
			t.Errorf("%q: Again = %v, %d, not %v, %d", file, b, e, want, wrong)
		}
		if file != "" {
			if b, e := modeller.Again(s, file[:len(file)-1]); !strings.HasSuffix(file, "\n\n") && (!same(b, api.MdBooks{}) || e != api.ErrForm) {
				t.Errorf("%q: Again without its last byte = %v, %d", file, b, e)
			}
		}
	}
	if fine < 100 || bad < 100 {
		t.Errorf("%d files are fine, %d are not", fine, bad)
	}
}

// P13.10: parted, all is as if it had been done together.
func TestParted(t *testing.T) {
	d := dice(6)
	for range 200 {
		s, w := d.shop()
		lines := d.lines(s, w, d.from(2, 50))
		b, answers := worked(t, s, lines)
		at := d.roll(len(lines) + 1)
		part, told := worked(t, s, lines[:at])
		for _, line := range lines[at:] {
			next, answer, e := modeller.Line(part, line)
			if e != api.OK {
				next, answer = part, "error "+words(int(e))
			}
			part, told = next, append(told, answer)
		}
		if !same(part, b) || !slices.Equal(told, answers) {
			t.Errorf("%q: parted at %d: %q, not %q", lines, at, told, answers)
		}
	}
}

// spans returns the answers to height, apart, thick and size.
func spans(t *testing.T, b api.MdBooks) (list []api.Span) {
	t.Helper()
	s := b.Shop
	for _, name := range s.Sheet.Points {
		list = append(list, spanAsked(t, b, "height "+name), spanAsked(t, b, words("apart", name, s.Sheet.Points[0])))
	}
	for _, k := range s.Stack.Kinds {
		list = append(list, spanAsked(t, b, "thick "+k.Name))
	}
	for _, m := range s.Moulds.Moulds {
		for cast := range m.Casts {
			list = append(list, spanAsked(t, b, words("size", m.Name, cast)))
		}
	}
	return list
}

// P13.11: with one more line no answer is wider, and no cut is lower.
func TestOneMore(t *testing.T) {
	d := dice(7)
	narrower, higher := 0, 0
	for range 150 {
		s, w := d.shop()
		b := fresh(s)
		before := spans(t, b)
		for range 12 {
			after, _, e := modeller.Line(b, one(&d, d.trueLine(s, w), d.trueLine(s, w), d.wild(s, changing(s))))
			if e != api.OK {
				continue
			}
			is := spans(t, after)
			for i := range is {
				if !inside(before[i], is[i]) {
					t.Errorf("%q: %v is wider than %v", after.Log, is[i], before[i])
				}
			}
			if !slices.Equal(is, before) {
				narrower++
			}
			higher += checkHigher(t, b, after)
			b, before = after, is
		}
	}
	if narrower < 200 || higher < 20 {
		t.Errorf("%d lines make an answer narrower, %d raise a cut", narrower, higher)
	}
}

// checkHigher checks that with the same scale no cut is lower, and returns 1 if one is higher.
func checkHigher(t *testing.T, b, after api.MdBooks) int {
	t.Helper()
	was, cuts, e := modeller.Model(b)
	is, now, f := modeller.Model(after)
	if e != api.OK || f != api.OK || was != is || slices.Equal(cuts, now) {
		return 0
	}
	for i := range cuts {
		if now[i] < cuts[i] {
			t.Errorf("%q: the cuts %v, with %v, were %v", after.Log, now, is, cuts)
		}
	}
	return 1
}

// thing returns what a line is about.
func thing(line string) string {
	first, _, _ := strings.Cut(line, " ")
	for what, of := range map[string]string{"sheet": "spot contour lake slope height apart", "stack": "stack thick boards", "rivers": "river water correct",
		"model": "pin seen lengths", "moulds": "cast size", "claim": "back cause ask", "scale": "scale"} {
		if slices.Contains(strings.Fields(of), first) {
			return what
		}
	}
	return ""
}

// P13.12: lines about different things can be exchanged.
func TestEachForItself(t *testing.T) {
	d := dice(8)
	both := 0
	for range 2000 {
		s, w := d.shop()
		b, _ := worked(t, s, d.lines(s, w, d.roll(10)))
		x, y := d.line(s, w), d.line(s, w)
		if thing(x) == "" || thing(y) == "" || thing(x) == thing(y) {
			continue
		}
		xy, told := twoLines(b, x, y)
		yx, turned := twoLines(b, y, x)
		if told[0] != turned[1] || told[1] != turned[0] {
			t.Errorf("%q, %q: %q, but %q the other way round", x, y, told, turned)
		}
		if len(xy.Log) == len(b.Log)+2 {
			both++
			slices.Reverse(yx.Log[len(b.Log):])
		}
		if !same(xy, yx) {
			t.Errorf("%q, %q: %v, but %v the other way round", x, y, xy, yx)
		}
	}
	if both < 300 {
		t.Errorf("only %d pairs of lines are both kept", both)
	}
}

// twoLines returns the books after two lines, and the answers.
func twoLines(b api.MdBooks, lines ...string) (api.MdBooks, []string) {
	var answers []string
	for _, line := range lines {
		after, answer, e := modeller.Line(b, line)
		if e != api.OK {
			after, answer = b, "error "+words(int(e))
		}
		b, answers = after, append(answers, answer)
	}
	return b, answers
}

// cut returns the greatest scale with which no height is cut above Most, and the cuts, found by trying all scales; and whether
// there is one.
func cut(c api.ScCase, heights []int) (best api.ScScale, cuts []int, is bool) {
	for up := 1; up <= 30; up++ {
		for down := 1; down <= 30; down++ {
			var l []int
			for _, h := range heights {
				n := max(0, h-c.Base) * up
				switch rest := n % down; {
				case c.Kind == api.ScUp && rest > 0, c.Kind == api.ScNear && 2*rest >= down && rest > 0:
					n += down - rest
				}
				l = append(l, n/down)
			}
			if slices.Max(l) <= c.Most && (!is || up*best.Down > best.Up*down) {
				best, cuts, is = api.ScScale{Up: up, Down: down}, l, true
			}
		}
	}
	return best, cuts, is
}

// P13.5: against all scales.
func TestModelAgainstAll(t *testing.T) {
	d := dice(9)
	none := 0
	for range 400 {
		s, w := d.shop()
		b, _ := worked(t, s, d.lines(s, w, d.roll(12)))
		var heights []int
		for _, name := range s.Sheet.Points {
			heights = append(heights, spanAsked(t, b, "height "+name).Lo)
		}
		best, cuts, is := cut(s.Scale, heights)
		if !is {
			none++
			checkModel(t, "none", b, api.ScScale{}, nil, api.ErrDown)
			continue
		}
		checkModel(t, "some", b, best, cuts, api.OK)
	}
	if none < 20 || none > 300 {
		t.Errorf("%d models cannot be cut", none)
	}
}

// P13.13: no argument is modified, and results are new memory.
func TestMemory(t *testing.T) {
	d := dice(10)
	for range 150 {
		s, w := d.shop()
		lines := d.lines(s, w, d.from(1, 25))
		was, read := clone(s), clone(lines)
		b, answers := worked(t, s, lines)
		kept := clone(b)
		if !same(s, was) || !same(lines, read) {
			t.Fatalf("Work changes its arguments: %v, %q", s, lines)
		}
		for _, line := range slices.Concat(lines, d.lines(s, w, 20)) {
			after, _, _ := modeller.Line(b, line)
			if !same(b, kept) {
				t.Fatalf("%q: Line changes its argument", line)
			}
			spoil(&after)
			if !same(b, kept) {
				t.Fatalf("%q: Line returns memory of its argument", line)
			}
		}
		file, _ := modeller.File(b)
		again, _ := modeller.Again(s, file)
		_, cuts, _ := modeller.Model(b)
		spoil(&cuts)
		if !same(b, kept) || !same(s, was) {
			t.Fatalf("File, Again or Model change their arguments")
		}
		spoil(&again)
		spoil(&b)
		spoil(&answers)
		if !same(s, was) || !same(lines, read) {
			t.Fatalf("Work or Again return memory of their arguments")
		}
	}
}

// P13.13: a change of what was given does not reach what was returned.
func TestMemoryOfResults(t *testing.T) {
	s := sample()
	lines, _ := examples()
	b, _ := worked(t, s, lines)
	spoil(&s)
	spoil(&lines)
	if !same(b, after()) {
		t.Errorf("Work returns memory of its arguments: %v", b)
	}
	next := done(t, b, "river well 3")
	want := clone(next)
	spoil(&b)
	if !same(next, want) {
		t.Errorf("Line returns memory of its argument: %v", next)
	}
}

// P13.13: what an argument has room for behind its lists is not written to, either.
func TestRoom(t *testing.T) {
	lines, _ := examples()
	s, read := roomy(sample()), roomy(lines)
	b, _ := worked(t, s, read)
	file, _ := modeller.File(b)
	modeller.Again(s, file)
	if !hasRoom(s) || !hasRoom(read) {
		t.Errorf("Work or Again write behind lists of their arguments")
	}
	b = roomy(b)
	for _, line := range good() {
		modeller.Line(b, line)
	}
	modeller.File(b)
	modeller.Model(b)
	if !hasRoom(b) || !same(b, after()) {
		t.Errorf("Line, File or Model write behind lists of their argument")
	}
}

// oddValue fills a value with odd numbers, strings and lists.
func (d *dice) oddValue(x reflect.Value) {
	switch x.Kind() {
	case reflect.Struct:
		for i := range x.NumField() {
			d.oddValue(x.Field(i))
		}
	case reflect.Slice:
		many := one(d, 0, 1, 2, 3, 9, 13, 32)
		x.Set(reflect.MakeSlice(x.Type(), many, many))
		for i := range many {
			d.oddValue(x.Index(i))
		}
	case reflect.Int:
		x.SetInt(int64(d.odd()))
	case reflect.String:
		x.SetString(one(d, "", "a", "b", "tor", "A", "\xff\xfe", "boards", strings.Repeat("x", 81)))
	}
}

// P13.13, P1: any arguments are accepted. Without an error no books of odd numbers are to be had, but parts of them may be odd.
func TestAnyArguments(t *testing.T) {
	d := dice(11)
	fields := reflect.TypeFor[api.MdShop]().NumField()
	for range 3000 {
		b := fresh(sample())
		at := reflect.ValueOf(&b).Elem()
		switch d.roll(4) {
		case 0:
			d.oddValue(at)
		case 1:
			d.oddValue(at.Field(d.from(1, 2)))
		default:
			d.oddValue(at.Field(0).Field(d.roll(fields)))
		}
		part, e := modeller.Check(b.Shop)
		if (part == 0) != (e == api.OK) || part < 0 || part > 10 || part >= 8 && e != api.ErrZero {
			t.Errorf("%v: Check = %d, %d", b.Shop, part, e)
		}
		if e != api.OK {
			checkShopFault(t, "odd", b.Shop, e)
			checkBooksFault(t, "odd", b, e)
			continue
		}
		modeller.Line(b, one(&d, good()...))
		modeller.File(b)
		modeller.Model(b)
	}
	for range 3000 {
		line := make([]byte, d.roll(90))
		for i := range line {
			line[i] = byte(d.roll(256))
		}
		e := api.ErrForm
		if len(line) > 80 {
			e = api.ErrLong
		}
		checkRefused(t, "any bytes", fresh(sample()), string(line), e)
		modeller.Again(sample(), string(line))
	}
}
