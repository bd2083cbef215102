package modeller_test

import (
	"fmt"
	"math"
	"slices"
	"strings"
	"testing"

	"hachure/api"
	"hachure/modeller"
)

const (
	big   = math.MaxInt
	small = math.MinInt
)

// examples are the lines of the chapter, and their answers.
func examples() (lines, answers []string) {
	for _, l := range [][2]string{
		{"height ford", "880 950"}, {"slope mere ford -40 -10", ""}, {"height ford", "910 950"}, {"spot mere 0 800", "error 8"},
		{"boards", "6"}, {"thick fat", "1000 1006"}, {"stack 0 1006 1006 0 1", ""}, {"thick thin", "300 301"},
		{"water spring", "mill"}, {"correct", "1"}, {"river ford 35", ""}, {"water spring", "sea"}, {"correct", "0"},
		{"seen 0", "1"}, {"lengths", "30 31 12"}, {"pin oak 0", ""}, {"seen 0", "2"},
		{"scale 47", "5 6"}, {"size vale 1", "998 1000"}, {"cast vale 0 998 998", ""}, {"size hill 3", "994 999"},
		{"cause worn", "may"}, {"ask", "edge"}, {"back edge 47", ""}, {"cause worn", "must"},
		{"weather", "error 6"}, {"height Tor", "error 4"}, {"height moor", "error 4"}, {"cast vale 2 1 2", "error 4"},
	} {
		lines, answers = append(lines, l[0]), append(answers, l[1])
	}
	return lines, answers
}

// after are the books after the lines of the chapter.
func after() api.MdBooks {
	b := fresh(sample())
	b.Shop.Sheet.Notes = append(b.Shop.Sheet.Notes, api.ShNote{Kind: api.ShSlope, A: 1, B: 2, By: span(-40, -10)})
	b.Shop.Stack.Measures = append(b.Shop.Stack.Measures, api.SpMeasure{Counts: []int{0, 1}, Air: 0, Level: span(1006, 1006)})
	b.Shop.Rivers[1].Height = 35
	b.Shop.Model.Pins[0].Length = 0
	b.Cast = []api.CaSeen{{Mould: 1, Cast: 0, Size: span(998, 998)}}
	b.Shop.Claim.Measures = append(b.Shop.Claim.Measures, api.BkMeasure{Feature: 2, Shown: 47})
	b.Log = []string{"slope mere ford -40 -10", "stack 0 1006 1006 0 1", "river ford 35", "pin oak 0", "cast vale 0 998 998", "back edge 47"}
	return b
}

// The chapter's examples, and the examples 1 and 6 of DOC.md.
func TestExamples(t *testing.T) {
	lines, answers := examples()
	b, told := worked(t, sample(), lines)
	if !slices.Equal(told, answers) || !same(b, after()) {
		t.Errorf("Work = %v, %q, not %v, %q", b, told, after(), answers)
	}
	file, e := modeller.File(b)
	if file != strings.Join(b.Log, "\n")+"\n" || e != api.OK {
		t.Errorf("File = %q, %d", file, e)
	}
	checkModel(t, "at first", fresh(sample()), api.ScScale{Up: 1, Down: 22}, []int{49, 36, 35, 36}, api.OK)
	checkModel(t, "after all lines", b, api.ScScale{Up: 1, Down: 22}, []int{49, 36, 37, 36}, api.OK)
}

// part is a part of a shop that is made wrong, and the error that Check has then.
type part struct {
	what   string
	change func(s *api.MdShop)
	part   int
	e      api.Errno
}

// formParts are those that the Checks of the layers see.
func formParts() []part {
	return []part{
		{"nothing wrong", func(s *api.MdShop) {}, 0, api.OK},
		{"no Interval", func(s *api.MdShop) { s.Sheet.Interval = 0 }, 1, api.ErrRange},
		{"no points", func(s *api.MdShop) { s.Sheet.Points = nil }, 1, api.ErrLong},
		{"a name that is none", func(s *api.MdShop) { s.Sheet.Points[2] = "Ford" }, 1, api.ErrForm},
		{"a name twice", func(s *api.MdShop) { s.Sheet.Points[2] = "tor" }, 1, api.ErrTwice},
		{"13 notes", func(s *api.MdShop) { s.Sheet.Notes = slices.Repeat(s.Sheet.Notes[:1], 13) }, 1, api.ErrLong},
		{"12 notes", func(s *api.MdShop) { s.Sheet.Notes = slices.Repeat(s.Sheet.Notes[:1], 12) }, 0, api.OK},
		{"a note about no point", func(s *api.MdShop) { s.Sheet.Notes[3].B = 4 }, 1, api.ErrNone},
		{"a slope of itself", func(s *api.MdShop) { s.Sheet.Notes[3].B = 0 }, 1, api.ErrArg},
		{"no kinds", func(s *api.MdShop) { s.Stack.Kinds = nil }, 2, api.ErrLong},
		{"a Thick too great", func(s *api.MdShop) { s.Stack.Kinds[0].Thick.Hi = big }, 2, api.ErrRange},
		{"bands in no order", func(s *api.MdShop) { s.Stack.Bands[1].Lo = 1 }, 2, api.ErrArg},
		{"no bands", func(s *api.MdShop) { s.Stack.Bands = nil }, 0, api.OK},
		{"no rivers", func(s *api.MdShop) { s.Rivers = nil }, 3, api.ErrLong},
		{"no mouth", func(s *api.MdShop) { s.Rivers[0].Down = 1 }, 3, api.ErrZero},
		{"water that goes round", func(s *api.MdShop) { s.Rivers[1].Down = 4 }, 3, api.ErrDown},
		{"no fields", func(s *api.MdShop) { s.Model.W = 0 }, 4, api.ErrRange},
		{"a stand on a field", func(s *api.MdShop) { s.Model.Stands[0].X = 0 }, 4, api.ErrNone},
		{"no pins and stands", func(s *api.MdShop) { s.Model.Pins, s.Model.Stands = nil, nil }, 0, api.OK},
		{"no Kind", func(s *api.MdShop) { s.Scale.Kind = 0 }, 5, api.ErrArg},
		{"a height below Base", func(s *api.MdShop) { s.Scale.Heights[1] = 99 }, 5, api.ErrRange},
		{"no heights", func(s *api.MdShop) { s.Scale.Heights = nil }, 5, api.ErrLong},
		{"a Shrink that is turned", func(s *api.MdShop) { s.Moulds.Shrink.Hi = 9 }, 6, api.ErrArg},
		{"no moulds", func(s *api.MdShop) { s.Moulds.Moulds = nil }, 6, api.ErrLong},
		{"no features", func(s *api.MdShop) { s.Claim.Features = nil }, 7, api.ErrLong},
		{"a measure of no feature", func(s *api.MdShop) { s.Claim.Measures[1].Feature = -1 }, 7, api.ErrNone},
		{"no causes, and no measures", func(s *api.MdShop) { s.Claim.Causes, s.Claim.Measures = nil, nil }, 0, api.OK},
		{"a shop of nothing", func(s *api.MdShop) { *s = api.MdShop{} }, 1, api.ErrRange},
	}
}

// truthParts are those that no truth agrees with.
func truthParts() []part {
	return []part{
		{"a sheet that does not fit", func(s *api.MdShop) { s.Sheet.Notes[0].By = span(0, 200) }, 8, api.ErrZero},
		{"a lake that rises", func(s *api.MdShop) {
			s.Sheet.Notes = append(s.Sheet.Notes, api.ShNote{Kind: api.ShSlope, A: 1, B: 3, By: span(1, 2)})
		}, 8, api.ErrZero},
		{"a stack with which nothing agrees", func(s *api.MdShop) { s.Stack.Measures[0].Level = span(1, 2) }, 9, api.ErrZero},
		{"a stack that is too high", func(s *api.MdShop) { s.Stack.Measures[0].Level = span(1615, 1616) }, 9, api.ErrZero},
		{"a claim with which nothing agrees", func(s *api.MdShop) { s.Claim.Measures[0].Shown = 5 }, 10, api.ErrZero},
		{"a claim without causes", func(s *api.MdShop) { s.Claim.Causes = nil }, 10, api.ErrZero},
	}
}

// P13.1: each part, and that each one comes before those behind it.
func TestCheck(t *testing.T) {
	parts := slices.Concat(formParts(), truthParts())
	for _, p := range parts {
		checkParts(t, p.what, changed(p.change), p.part, p.e)
		for _, o := range parts {
			if p.part == 0 || p.part >= o.part {
				continue
			}
			s := sample()
			o.change(&s)
			if q, _ := modeller.Check(s); q != o.part {
				t.Fatalf("%s is not wrong by itself", o.what)
			}
			p.change(&s)
			checkParts(t, p.what+", and "+o.what, s, p.part, p.e)
		}
	}
}

// checkParts checks what Check returns, and that all functions return its error first.
func checkParts(t *testing.T, what string, s api.MdShop, part int, e api.Errno) {
	t.Helper()
	if p, f := modeller.Check(s); p != part || f != e {
		t.Errorf("%s: Check = %d, %d, not %d, %d", what, p, f, part, e)
	}
	if e == api.OK {
		return
	}
	checkShopFault(t, what, s, e)
	checkBooksFault(t, what, fresh(s), e)
	b := fresh(s)
	b.Cast, b.Log = slices.Repeat([]api.CaSeen{{Mould: -1}}, 7), slices.Repeat([]string{strings.Repeat("x", 81)}, 31)
	checkBooksFault(t, what+", and all else", b, e)
}

// checkShopFault checks that Work and Again return an error of a shop before their own ones, and nothing else.
func checkShopFault(t *testing.T, what string, s api.MdShop, e api.Errno) {
	t.Helper()
	for _, lines := range [][]string{nil, {"boards"}, make([]string, 101)} {
		if b, l, f := modeller.Work(s, lines); !same(b, api.MdBooks{}) || len(l) > 0 || f != e {
			t.Errorf("%s: Work = %v, %q, %d, not %d", what, b, l, f, e)
		}
	}
	for _, file := range []string{"", "river ford 35\n", "x", strings.Repeat("\n", 2501)} {
		if b, f := modeller.Again(s, file); !same(b, api.MdBooks{}) || f != e {
			t.Errorf("%s: Again = %v, %d, not %d", what, b, f, e)
		}
	}
}

// checkBooksFault checks that Line, File and Model return an error of books before their own ones, and nothing else.
func checkBooksFault(t *testing.T, what string, b api.MdBooks, e api.Errno) {
	t.Helper()
	for _, line := range []string{"", "boards", "river ford 35", "height moor", "spot mere 0 800", strings.Repeat("x", 81)} {
		checkRefused(t, what, b, line, e)
	}
	if file, f := modeller.File(b); file != "" || f != e {
		t.Errorf("%s: File = %q, %d, not %d", what, file, f, e)
	}
	checkModel(t, what, b, api.ScScale{}, nil, e)
}

// checkModel checks what Model returns.
func checkModel(t *testing.T, what string, b api.MdBooks, s api.ScScale, cuts []int, e api.Errno) {
	t.Helper()
	if is, l, f := modeller.Model(b); is != s || !slices.Equal(l, cuts) || f != e {
		t.Errorf("%s: Model = %v, %v, %d, not %v, %v, %d", what, is, l, f, s, cuts, e)
	}
}

// The error of books: the casts, then the truths of the moulds, then the Log.
func TestErrorOfBooks(t *testing.T) {
	seen := func(mould, cast, lo, hi int) []api.CaSeen {
		return []api.CaSeen{{Mould: mould, Cast: cast, Size: span(lo, hi)}}
	}
	for _, c := range []struct {
		what string
		cast []api.CaSeen
		e    api.Errno
	}{
		{"7 casts", slices.Repeat(seen(1, 0, 998, 998), 7), api.ErrLong},
		{"7 casts of no mould", slices.Repeat(seen(9, 0, 998, 998), 7), api.ErrLong},
		{"no mould", seen(2, 0, 998, 998), api.ErrNone},
		{"a mould below 0", seen(-1, 0, 998, 998), api.ErrNone},
		{"no cast", seen(1, 2, 998, 998), api.ErrNone},
		{"a size below 0", seen(1, 0, -1, 998), api.ErrRange},
		{"a size too great", seen(1, 0, 998, 20001), api.ErrRange},
		{"a size that is turned", seen(1, 0, 999, 998), api.ErrArg},
		{"a size that it cannot have", seen(1, 0, 1001, 1002), api.ErrZero},
		{"sizes that it cannot have together", append(seen(1, 0, 998, 998), seen(1, 1, 1000, 1000)...), api.ErrZero},
		{"the first one decides", append(seen(1, 0, 999, 998), seen(9, 0, 1, 2)...), api.ErrArg},
		{"an error before no truth", append(seen(1, 0, 1, 2), seen(1, 2, 1, 2)...), api.ErrNone},
	} {
		b := fresh(sample())
		b.Cast = c.cast
		checkBooksFault(t, c.what, b, c.e)
		b.Log = make([]string, 31)
		checkBooksFault(t, c.what+", and a Log too long", b, c.e)
	}
	b := fresh(sample())
	b.Cast = slices.Repeat(seen(1, 0, 998, 998), 6)
	checkAnswer(t, "6 casts", b, "size hill 3", "994 999")
}

// The error of books: the Log, which can have any bytes otherwise.
func TestErrorOfLog(t *testing.T) {
	line := strings.Repeat("\xff", 80)
	for _, c := range []struct {
		what string
		log  []string
	}{
		{"31 lines", make([]string, 31)},
		{"a line of 81 bytes", []string{line, line + "x"}},
		{"the first line", []string{line + "x", ""}},
		{"31 lines that are too long", slices.Repeat([]string{line + "x"}, 31)},
		{"a long line, and much", []string{strings.Repeat("boards ", 1000)}},
	} {
		b := fresh(sample())
		b.Log = c.log
		checkBooksFault(t, c.what, b, api.ErrLong)
	}
	b := fresh(sample())
	b.Log = slices.Repeat([]string{line}, 30)
	checkFile(t, "the longest Log", b, strings.Repeat(line+"\n", 30))
	checkAnswer(t, "the longest Log", b, "boards", "6")
}

// good are a line of each form, and what stands behind its first word is as formOf says.
func good() []string {
	return []string{"spot mere 0 930", "contour mere 8 10", "lake mere dam", "slope tor dam 100 400", "stack 10 1303 1337 1 1", "river mill 50",
		"pin elm 31", "cast hill 3 995 999", "back deep 792", "height tor", "apart tor mere", "thick thin", "boards", "water well", "correct",
		"seen 0", "lengths", "scale 1000000", "size hill 0", "cause scale", "ask"}
}

// P13.2: each form, and lines that are like it.
func TestForms(t *testing.T) {
	b := fresh(sample())
	if n := len(good()); n != len(changing(b.Shop))+len(asking()) {
		t.Fatalf("%d lines are not one of each form", n)
	}
	for _, line := range good() {
		is, told, e := expected(b, line)
		checkLine(t, "good", b, line, is, told, e)
		if e != api.OK {
			t.Errorf("%q is refused: %d", line, e)
		}
		words := strings.Split(line, " ")
		for _, bad := range []string{line + " 1", line + " tor", line + " ", " " + line, line + "\n", "\t" + line, strings.ToUpper(line[:1]) + line[1:], "x" + line, line[1:]} {
			if bad == line+"\n" && len(words) > 1 && formEnds(b.Shop, words[0]) != number {
				checkRefused(t, "a name with a line feed", b, bad, api.ErrNone)
				continue
			}
			checkRefused(t, "like it", b, bad, api.ErrForm)
		}
		for i := range words {
			checkRefused(t, "two spaces", b, strings.Join(slices.Insert(slices.Clone(words), i, ""), " "), api.ErrForm)
			checkRefused(t, "without a word", b, strings.Join(slices.Delete(slices.Clone(words), i, i+1), " "), api.ErrForm)
			checkRefused(t, "an empty word", b, strings.Join(put(words, i, ""), " "), api.ErrForm)
			checkRefused(t, "a tab", b, strings.Join(put(words, i, words[i]+"\t"+words[i]), " "), tabbed(b.Shop, words, i))
		}
	}
	for _, line := range []string{"", " ", "  ", "\n", "note tor 1 2", "Boards", "boards\x00", "heights tor", "heigh tor", "sheet 100", "point tor", "1 2", "\xff", "error 6"} {
		checkRefused(t, "no form", b, line, api.ErrForm)
	}
}

// put returns words with one of them replaced.
func put(words []string, i int, word string) []string {
	words = slices.Clone(words)
	words[i] = word
	return words
}

// formEnds returns what the last word of a line is.
func formEnds(s api.MdShop, first string) rune {
	form, _ := formOf(s, first)
	return rune(form[len(form)-1])
}

// tabbed returns the error of a line one of whose words has a tab in it: just names can be any words.
func tabbed(s api.MdShop, words []string, i int) api.Errno {
	if form, _ := formOf(s, words[0]); i > 0 && form[i-1] != number {
		return api.ErrNone
	}
	return api.ErrForm
}

// P13.2: numbers.
func TestNumbers(t *testing.T) {
	b := fresh(sample())
	bad := []string{"-", "-0", "00", "01", "-01", "+1", "--1", "1-", "1234567890", "-1234567890", "0000000000", "1a", "a1", "a", "1.0", "1e3", "0x1",
		"1_0", "\u0663", "\uff11", "1\n", "1\x00", "\xff", "1\xff", "/", ":", "1/", "1:", "tor", "99999999999999999999"}
	fine := []string{"0", "1", "-1", "9", "10", "-10", "100", "123456789", "-123456789", "999999999", "100000000", "-999999999"}
	for _, line := range good() {
		words := strings.Split(line, " ")
		form, _ := formOf(b.Shop, words[0])
		for i, what := range form {
			if what != number {
				continue
			}
			for _, word := range bad {
				checkRefused(t, "no number", b, strings.Join(put(words, 1+i, word), " "), api.ErrForm)
			}
			for _, word := range fine {
				with := strings.Join(put(words, 1+i, word), " ")
				is, told, e := expected(b, with)
				checkLine(t, "a number", b, with, is, told, e)
				if e == api.ErrForm {
					t.Errorf("%q is a number", word)
				}
			}
		}
	}
}

// P13.2: names, which are looked for just if all else has the form.
func TestNames(t *testing.T) {
	b := fresh(sample())
	bad := []string{"moor", "Tor", "to", "torr", "-", "5", "TOR", "t\xff", "\xff", "elm2", strings.Repeat("a", 17)}
	everything := slices.Concat(names(b.Shop, point), names(b.Shop, kind), names(b.Shop, riverPoint), names(b.Shop, pinOf), names(b.Shop, mould), names(b.Shop, feature), names(b.Shop, cause))
	for _, line := range good() {
		words := strings.Split(line, " ")
		form, _ := formOf(b.Shop, words[0])
		for i, what := range form {
			if what == number {
				continue
			}
			for _, word := range slices.Concat(bad, everything) {
				with := put(words, 1+i, word)
				if !slices.Contains(names(b.Shop, what), word) {
					checkRefused(t, "no name", b, strings.Join(with, " "), api.ErrNone)
				}
				if strings.ContainsRune(form, number) {
					checkRefused(t, "no name and no number", b, strings.Join(put(with, len(form), "x"), " "), api.ErrForm)
				}
				checkRefused(t, "no name and one word more", b, strings.Join(with, " ")+" x", api.ErrForm)
			}
		}
	}
	for _, line := range []string{"height mill", "water tor", "river dam 5", "thick oak", "pin thin 5", "size thin 0", "cast oak 0 1 1", "back water 5", "cause wide"} {
		checkRefused(t, "a name of something else", b, line, api.ErrNone)
	}
	checkRefused(t, "a name before an error of the function", b, "size moor 9", api.ErrNone)
	checkRefused(t, "a name before what the books have then", b, "spot moor 5 -4", api.ErrNone)
}

// P13.2: a line of 80 bytes is looked at, a longer one is not.
func TestLongLines(t *testing.T) {
	b := fresh(sample())
	name := strings.Repeat("a", 73)
	checkRefused(t, "80 bytes", b, "height "+name, api.ErrNone)
	checkRefused(t, "80 bytes without a form", b, "heigth "+name, api.ErrForm)
	for _, line := range []string{"height " + name + "a", "heigth " + name + "a", strings.Repeat("boards ", 99999), strings.Repeat(" ", 81)} {
		checkRefused(t, "more than 80 bytes", b, line, api.ErrLong)
	}
}

// P13.2: what each line that changes the books changes, by hand.
func TestChanges(t *testing.T) {
	note := func(kind, a, b int, by api.Span) func(b *api.MdBooks) {
		return func(x *api.MdBooks) {
			x.Shop.Sheet.Notes = append(x.Shop.Sheet.Notes, api.ShNote{Kind: kind, A: a, B: b, By: by})
		}
	}
	for _, c := range []struct {
		line   string
		change func(b *api.MdBooks)
	}{
		{"spot tor 0 9000", note(1, 0, 0, span(0, 9000))},
		{"spot dam 930 930", note(1, 3, 0, span(930, 930))},
		{"contour mere 0 90", note(2, 1, 0, span(0, 90))},
		{"lake mere dam", note(3, 1, 3, span(0, 0))},
		{"lake dam mere", note(3, 3, 1, span(0, 0))},
		{"slope ford tor -300 -260", note(4, 2, 0, span(-300, -260))},
		{"slope mere tor -9000 9000", note(4, 1, 0, span(-9000, 9000))},
		{"stack 100 0 400000 12 0", func(b *api.MdBooks) {
			b.Shop.Stack.Measures = append(b.Shop.Stack.Measures, api.SpMeasure{Counts: []int{12, 0}, Air: 100, Level: span(0, 400000)})
		}},
		{"stack 3 300 320 1 0", func(b *api.MdBooks) {
			b.Shop.Stack.Measures = append(b.Shop.Stack.Measures, api.SpMeasure{Counts: []int{1, 0}, Air: 3, Level: span(300, 320)})
		}},
		{"river sea 9000", func(b *api.MdBooks) { b.Shop.Rivers[0].Height = 9000 }},
		{"river well 0", func(b *api.MdBooks) { b.Shop.Rivers[4].Height = 0 }},
		{"pin oak 60", func(b *api.MdBooks) { b.Shop.Model.Pins[0].Length = 60 }},
		{"pin ash 0", func(b *api.MdBooks) { b.Shop.Model.Pins[2].Length = 0 }},
		{"cast hill 3 0 20000", func(b *api.MdBooks) { b.Cast = append(b.Cast, api.CaSeen{Mould: 0, Cast: 3, Size: span(0, 20000)}) }},
		{"cast vale 1 998 999", func(b *api.MdBooks) { b.Cast = append(b.Cast, api.CaSeen{Mould: 1, Cast: 1, Size: span(998, 999)}) }},
		{"back wide 988", func(b *api.MdBooks) {
			b.Shop.Claim.Measures = append(b.Shop.Claim.Measures, api.BkMeasure{Feature: 0, Shown: 988})
		}},
		{"back edge 51", func(b *api.MdBooks) {
			b.Shop.Claim.Measures = append(b.Shop.Claim.Measures, api.BkMeasure{Feature: 2, Shown: 51})
		}},
	} {
		for what, b := range map[string]api.MdBooks{"at first": fresh(sample()), "after others": {Shop: sample(), Cast: []api.CaSeen{{Mould: 1, Size: span(0, 20000)}}, Log: []string{"x", "y"}}} {
			want := clone(b)
			c.change(&want)
			want.Log = append(want.Log, c.line)
			checkLine(t, what, b, c.line, want, "", api.OK)
		}
	}
}

// P13.2: the errors that the books would have.
func TestRefused(t *testing.T) {
	b := fresh(sample())
	for line, e := range map[string]api.Errno{
		"spot tor -1 5": api.ErrRange, "spot tor 0 9001": api.ErrRange, "spot tor 5 4": api.ErrArg, "spot mere 0 800": api.ErrZero,
		"contour mere 0 91": api.ErrRange, "contour mere -1 9": api.ErrRange, "contour mere 9 9": api.ErrArg, "contour mere 1 2": api.ErrZero,
		"lake tor tor": api.ErrArg, "lake tor mere": api.ErrZero, "slope dam dam 0 0": api.ErrArg, "slope tor dam -9001 0": api.ErrRange,
		"slope tor dam 0 999999999": api.ErrRange, "slope tor dam 5 4": api.ErrArg, "slope dam mere 1 1": api.ErrZero,
		"stack 101 1 2 1 0": api.ErrRange, "stack -1 1 2 1 0": api.ErrRange, "stack 0 1 2 13 0": api.ErrRange, "stack 0 1 2 0 -1": api.ErrRange,
		"stack 0 1 400001 1 0": api.ErrRange, "stack 0 -1 5 1 0": api.ErrRange, "stack 0 5 4 1 0": api.ErrArg, "stack 0 1 2 0 0": api.ErrArg,
		"stack 0 305 400000 1 0": api.ErrZero, "stack 1 300 300 1 0": api.ErrZero, "river sea -1": api.ErrRange, "river well 9001": api.ErrRange,
		"pin oak 61": api.ErrRange, "pin oak -1": api.ErrRange, "cast vale 2 998 998": api.ErrNone, "cast vale -1 998 998": api.ErrNone,
		"cast vale 0 -1 998": api.ErrRange, "cast vale 0 998 20001": api.ErrRange, "cast vale 0 999 998": api.ErrArg, "cast vale 0 1001 1002": api.ErrZero,
		"back wide -1": api.ErrRange, "back wide 200001": api.ErrRange, "back wide 1010": api.ErrZero, "back edge 53": api.ErrZero,
	} {
		checkRefused(t, "at first", b, line, e)
		if _, answers := worked(t, b.Shop, []string{line}); answers[0] != fmt.Sprintf("error %d", e) {
			t.Errorf("%q: Work = %q, not error %d", line, answers[0], e)
		}
	}
}

// P13.2: as many notes, measures and casts as there can be.
func TestTooMany(t *testing.T) {
	for line, many := range map[string]int{"spot tor 1180 1200": 8, "stack 0 0 400000 1 1": 5, "cast hill 0 0 20000": 6, "back wide 990": 6, "river well 3": 30, "pin oak 7": 30} {
		b := done(t, fresh(sample()), slices.Repeat([]string{line}, many)...)
		checkRefused(t, "one more", b, line, api.ErrLong)
	}
	b := done(t, fresh(sample()), slices.Repeat([]string{"cast hill 0 0 20000"}, 6)...)
	checkRefused(t, "how many before where", b, "cast hill 9 5 4", api.ErrLong)
}

// P13.2: a Log that is full takes no line, but asks can be asked; other errors come first.
func TestFullLog(t *testing.T) {
	b := fresh(sample())
	for i := range 30 {
		line := fmt.Sprintf("river well %d", i)
		want := clone(b)
		want.Shop.Rivers[4].Height = i
		want.Log = append(want.Log, line)
		checkLine(t, "not full", b, line, want, "", api.OK)
		b = want
	}
	for line, e := range map[string]api.Errno{"river well 5": api.ErrLong, "lake mere dam": api.ErrLong, "back edge 47": api.ErrLong, "river well 9001": api.ErrRange,
		"spot mere 0 800": api.ErrZero, "river moor 5": api.ErrNone, "river well": api.ErrForm, "cast vale 2 1 2": api.ErrNone, "seen 1": api.ErrNone} {
		checkRefused(t, "full", b, line, e)
	}
	checkAnswer(t, "full", b, "height ford", "880 950")
	checkAnswer(t, "full", b, "boards", "6")
}

// P13.2: answers by hand, and the errors of functions that are asked.
func TestAnswers(t *testing.T) {
	for _, c := range []struct {
		line, answer string
		e            api.Errno
		change       func(s *api.MdShop)
	}{
		{"height tor", "1180 1200", api.OK, nil}, {"height dam", "900 1000", api.OK, nil}, {"height tor", "0 9000", api.OK, func(s *api.MdShop) { s.Sheet.Notes = nil }},
		{"apart tor mere", "180 300", api.OK, nil}, {"apart mere tor", "-300 -180", api.OK, nil}, {"apart dam mere", "0 0", api.OK, nil}, {"apart tor tor", "0 0", api.OK, nil},
		{"thick thin", "300 304", api.OK, nil}, {"thick fat", "1000 1006", api.OK, nil},
		{"boards", "0", api.OK, func(s *api.MdShop) { s.Stack.Bands = nil }}, {"boards", "2", api.OK, func(s *api.MdShop) { s.Stack.Bands = s.Stack.Bands[:1] }},
		{"boards", "", api.ErrDown, func(s *api.MdShop) { s.Stack.Kinds[1].Have = 1 }},
		{"water sea", "sea", api.OK, nil}, {"water ford", "sea", api.OK, nil}, {"water well", "well", api.OK, nil}, {"water spring", "mill", api.OK, nil},
		{"correct", "1", api.OK, nil}, {"correct", "2", api.OK, func(s *api.MdShop) { s.Rivers[3].Least = 500 }},
		{"seen 0", "1", api.OK, nil}, {"seen 0", "3", api.OK, func(s *api.MdShop) { s.Model.Stands[0].Eye = span(100, 100) }}, {"seen 1", "", api.ErrNone, nil}, {"seen -1", "", api.ErrNone, nil},
		{"seen 0", "0", api.OK, func(s *api.MdShop) { s.Model.Pins = nil }}, {"seen 0", "", api.ErrNone, func(s *api.MdShop) { s.Model.Stands = nil }},
		{"lengths", "30 31 12", api.OK, nil}, {"lengths", "", api.OK, func(s *api.MdShop) { s.Model.Pins = nil }}, {"lengths", "", api.ErrDown, func(s *api.MdShop) { s.Model.Pins[2].Most = 11 }},
		{"lengths", "30", api.OK, func(s *api.MdShop) { s.Model.Pins = s.Model.Pins[:1] }},
		{"scale 0", "4 5", api.OK, nil}, {"scale 48", "21 25", api.OK, nil}, {"scale -1", "", api.ErrRange, nil}, {"scale 1000001", "", api.ErrRange, nil}, {"scale 1000000", "21 25", api.OK, nil},
		{"scale 0", "", api.ErrDown, func(s *api.MdShop) { s.Scale.Most = 1 }},
		{"size hill 0", "988 992", api.OK, nil}, {"size hill 3", "994 1001", api.OK, nil}, {"size hill 4", "", api.ErrNone, nil}, {"size hill -1", "", api.ErrNone, nil},
		{"cause water", "must", api.OK, nil}, {"cause worn", "may", api.OK, nil}, {"cause scale", "may", api.OK, nil},
		{"cause worn", "none", api.OK, func(s *api.MdShop) { s.Claim.Measures = append(s.Claim.Measures, api.BkMeasure{Feature: 2, Shown: 52}) }},
		{"cause scale", "must", api.OK, func(s *api.MdShop) { s.Claim.Measures = append(s.Claim.Measures, api.BkMeasure{Feature: 2, Shown: 52}) }},
		{"cause water", "", api.ErrNone, func(s *api.MdShop) { s.Claim.Causes, s.Claim.Measures = nil, nil }},
		{"ask", "edge", api.OK, nil}, {"ask", "wide", api.OK, func(s *api.MdShop) { s.Claim.Causes, s.Claim.Measures = nil, nil }},
	} {
		s := sample()
		if c.change != nil {
			c.change(&s)
		}
		want := fresh(s)
		if c.e != api.OK {
			want = api.MdBooks{}
		}
		checkLine(t, "asked", fresh(s), c.line, want, c.answer, c.e)
	}
}

// P13.3: how many lines there can be, and that one which is refused changes nothing.
func TestWork(t *testing.T) {
	s := sample()
	for what, lines := range map[string][]string{
		"no lines": nil, "100 that ask": slices.Repeat([]string{"correct"}, 100), "100 that are refused": make([]string, 100),
		"as many as the Log has": slices.Repeat([]string{"river ford 35"}, 30), "100 that change": slices.Repeat([]string{"pin oak 3"}, 100),
		"refused in between": {"river ford 35", "river ford 9001", "ford", "correct", "river moor 1", "river mill 300", "correct"},
		"of any length":      {strings.Repeat("x", 80), strings.Repeat("x", 81), "", strings.Repeat("correct ", 999)},
	} {
		want, wants := fresh(s), []string(nil)
		for _, line := range lines {
			next, told, e := expected(want, line)
			if e != api.OK {
				next, told = want, fmt.Sprintf("error %d", e)
			}
			want, wants = next, append(wants, told)
		}
		if b, answers := worked(t, s, lines); !same(b, want) || !slices.Equal(answers, wants) {
			t.Errorf("%s: Work = %q, not %q; %v, not %v", what, answers, wants, b, want)
		}
	}
	_, answers := worked(t, s, slices.Repeat([]string{"pin oak 3"}, 31))
	if answers[29] != "" || answers[30] != "error 3" {
		t.Errorf("The last of 31 lines that change the books has the answer %q, the one before it %q", answers[30], answers[29])
	}
	for _, many := range []int{101, 5000} {
		if b, l, e := modeller.Work(s, slices.Repeat([]string{"correct"}, many)); !same(b, api.MdBooks{}) || len(l) > 0 || e != api.ErrLong {
			t.Errorf("%d lines: Work = %v, %q, %d", many, b, l, e)
		}
	}
}

// checkFile checks what File returns.
func checkFile(t *testing.T, what string, b api.MdBooks, file string) {
	t.Helper()
	if is, e := modeller.File(b); is != file || e != api.OK {
		t.Errorf("%s: File = %q, %d, not %q", what, is, e, file)
	}
}

// P13.4: files.
func TestFile(t *testing.T) {
	checkFile(t, "no lines", fresh(sample()), "")
	checkFile(t, "the examples", after(), "slope mere ford -40 -10\nstack 0 1006 1006 0 1\nriver ford 35\npin oak 0\ncast vale 0 998 998\nback edge 47\n")
	for log, file := range map[string]string{"": "\n", "x|y": "x\ny\n", "|": "\n\n", "x||y": "x\n\ny\n", "x\n": "x\n\n", "boards|moor|\xff": "boards\nmoor\n\xff\n"} {
		b := fresh(sample())
		b.Log = strings.Split(log, "|")
		checkFile(t, "a Log of other lines", b, file)
	}
}

// P13.4: what is no file.
func TestAgain(t *testing.T) {
	s := sample()
	for _, c := range []struct {
		what, file string
		e          api.Errno
	}{
		{"2501 bytes", strings.Repeat("river well 10\n", 178) + "pin oak 5", api.ErrLong},
		{"2501 line feeds", strings.Repeat("\n", 2501), api.ErrLong},
		{"2500 line feeds", strings.Repeat("\n", 2500), api.ErrForm},
		{"2500 bytes", strings.Repeat("river sea 7\n", 208) + "ask\n", api.ErrLong},
		{"2501 bytes without a line feed", strings.Repeat("x", 2501), api.ErrLong},
		{"no line feed at the end", "river well 10\npin oak 5", api.ErrForm},
		{"no line feed at all", "river well 10", api.ErrForm},
		{"no line feed at the end, and another error", "river moor 10\npin oak 5", api.ErrForm},
		{"a space", " ", api.ErrForm},
		{"a line without a form", "river well 10\nweather\n", api.ErrForm},
		{"an empty line", "\n", api.ErrForm},
		{"an empty line in between", "river well 10\n\npin oak 5\n", api.ErrForm},
		{"an empty line at the end", "river well 10\n\n", api.ErrForm},
		{"other ends of lines", "river well 10\r\n", api.ErrForm},
		{"a line that asks", "river well 10\nboards\n", api.ErrArg},
		{"a line that asks alone", "ask\n", api.ErrArg},
		{"a line that asks before one with an error", "boards\nweather\n", api.ErrArg},
		{"a line with an error before one that asks", "river well 9001\nboards\n", api.ErrRange},
		{"a line that asks with an error", "river well 10\nheight moor\n", api.ErrNone},
		{"a line that asks with an error of the function", "river well 10\nseen 7\n", api.ErrNone},
		{"another one", "scale -1\n", api.ErrRange},
		{"a line that contradicts", "spot mere 0 800\n", api.ErrZero},
		{"lines that contradict", "spot mere 930 930\nspot dam 931 931\nweather\n", api.ErrZero},
		{"a name that is none", "pin moor 10\n", api.ErrNone},
		{"a line of 81 bytes", strings.Repeat("x", 81) + "\n", api.ErrLong},
		{"31 lines", strings.Repeat("pin oak 5\n", 31), api.ErrLong},
		{"30 lines, and one that asks", strings.Repeat("pin oak 5\n", 30) + "boards\n", api.ErrArg},
		{"30 lines, and one with an error", strings.Repeat("pin oak 5\n", 30) + "pin oak 61\n", api.ErrRange},
		{"how an answer is written", "river well 10\nerror 6\n", api.ErrForm},
	} {
		if b, e := modeller.Again(s, c.file); !same(b, api.MdBooks{}) || e != c.e {
			t.Errorf("%s: Again = %v, %d, not %d", c.what, b, e, c.e)
		}
	}
	for _, lines := range [][]string{nil, {"river well 10"}, after().Log, slices.Repeat([]string{"pin oak 5"}, 30), slices.Repeat([]string{"slope tor mere -9000 9000"}, 8)} {
		file := ""
		for _, line := range lines {
			file += line + "\n"
		}
		want := done(t, fresh(s), lines...)
		if b, e := modeller.Again(s, file); !same(b, want) || e != api.OK {
			t.Errorf("%q: Again = %v, %d, not %v", file, b, e, want)
		}
	}
}

// plain is the sample with spot heights alone, and another Scale, whose own heights and roads are of no use.
func plain(kind, base, most int, heights ...int) api.MdBooks {
	s := sample()
	s.Sheet.Notes = nil
	s.Sheet.Points = s.Sheet.Points[:len(heights)]
	for i, h := range heights {
		s.Sheet.Notes = append(s.Sheet.Notes, api.ShNote{Kind: api.ShSpot, A: i, By: span(h, h)})
	}
	s.Scale = api.ScCase{Kind: kind, Base: base, Most: most, Heights: []int{base, 9000, 9000}, Roads: []api.ScRoad{{From: 0, To: 1}, {From: 2, To: 1}}}
	return fresh(s)
}

// P13.5: by hand.
func TestModelByHand(t *testing.T) {
	at := func(up, down int) api.ScScale { return api.ScScale{Up: up, Down: down} }
	checkModel(t, "nothing fits", plain(api.ScUp, 100, 0, 100, 101), api.ScScale{}, nil, api.ErrDown)
	checkModel(t, "all is Base", plain(api.ScUp, 100, 0, 100, 100), at(30, 1), []int{0, 0}, api.OK)
	checkModel(t, "all is below Base", plain(api.ScUp, 9000, 0, 100, 0, 8999), at(30, 1), []int{0, 0, 0}, api.OK)
	checkModel(t, "one is above Base", plain(api.ScDown, 100, 10, 0, 120), at(6, 11), []int{0, 10}, api.OK)
	checkModel(t, "rounded down", plain(api.ScDown, 100, 0, 0, 120), at(1, 21), []int{0, 0}, api.OK)
	checkModel(t, "rounded up", plain(api.ScUp, 100, 10, 0, 120), at(1, 2), []int{0, 10}, api.OK)
	checkModel(t, "rounded to the nearest", plain(api.ScNear, 100, 10, 0, 120), at(11, 21), []int{0, 10}, api.OK)
	checkModel(t, "just once more", plain(api.ScDown, 0, 9000, 9000), at(1, 1), []int{9000}, api.OK)
	checkModel(t, "too high", plain(api.ScNear, 0, 299, 9000), api.ScScale{}, nil, api.ErrDown)
	checkModel(t, "just not too high", plain(api.ScNear, 0, 300, 9000), at(1, 30), []int{300}, api.OK)
	b := plain(api.ScDown, 0, 100, 50, 0)
	b.Shop.Sheet.Notes = []api.ShNote{{Kind: api.ShSpot, A: 0, By: span(50, 9000)}, {Kind: api.ShSlope, A: 1, B: 0, By: span(-40, 3)}}
	checkModel(t, "the least heights", b, at(2, 1), []int{100, 20}, api.OK)
	checkModel(t, "one that rises", done(t, b, "spot mere 48 60"), at(2, 1), []int{100, 96}, api.OK)
}
