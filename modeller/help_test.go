package modeller_test

import (
	"fmt"
	"reflect"
	"regexp"
	"slices"
	"strconv"
	"strings"
	"testing"

	"hachure/api"
	"hachure/back"
	"hachure/cast"
	"hachure/modeller"
	"hachure/pin"
	"hachure/river"
	"hachure/scale"
	"hachure/sheet"
	"hachure/step"
)

func span(lo, hi int) api.Span { return api.Span{Lo: lo, Hi: hi} }

// sample is the shop of the chapter's examples.
func sample() api.MdShop {
	return api.MdShop{
		Sheet: api.ShSheet{Interval: 100, Points: []string{"tor", "mere", "ford", "dam"}, Notes: []api.ShNote{
			{Kind: api.ShSpot, A: 0, By: span(1180, 1200)}, {Kind: api.ShContour, A: 1, By: span(9, 10)},
			{Kind: api.ShLake, A: 3, B: 1}, {Kind: api.ShSlope, A: 0, B: 2, By: span(250, 300)}}},
		Stack: api.SpStack{
			Kinds:    []api.SpKind{{Name: "thin", Thick: span(300, 304), Grow: 1, Have: 6}, {Name: "fat", Thick: span(1000, 1006), Grow: 2, Have: 4}},
			Air:      span(0, 10),
			Measures: []api.SpMeasure{{Counts: []int{2, 1}, Air: 0, Level: span(1606, 1608)}},
			Bands:    []api.Span{span(1295, 1340), span(2600, 2680), span(3200, 3305)}},
		Rivers: []api.RvPoint{{Name: "sea", Down: api.RvMouth}, {Name: "ford", Down: 0, Least: 5, Height: 40},
			{Name: "mill", Down: 1, Least: 10, Height: 45}, {Name: "spring", Down: 2, Least: 10, Height: 70}, {Name: "well", Down: 1, Height: 38}},
		Model: api.PnModel{W: 4, D: 2, Heights: []int{0, 10, 0, 20, 0, 0, 0, 0},
			Pins:   []api.PnPin{{Name: "oak", X: 0, Length: 30, Most: 60}, {Name: "elm", X: 2, Length: 26, Most: 100}, {Name: "ash", X: 3, Length: 5, Most: 40}},
			Stands: []api.PnStand{{X: -2, Eye: span(30, 100)}}},
		Scale: api.ScCase{Kind: api.ScNear, Base: 100, Most: 50, Heights: []int{100, 110, 125, 160},
			Roads: []api.ScRoad{{From: 0, To: 1}, {From: 1, To: 2}, {From: 3, To: 2}}},
		Moulds: api.CaShop{Shrink: span(10, 12), Moulds: []api.CaMould{
			{Name: "hill", Size: span(1000, 1002), Wear: span(2, 3), Casts: 4}, {Name: "vale", Size: span(1010, 1010), Casts: 2}}},
		Claim: api.BkClaim{
			Features: []api.BkFeature{{Name: "wide", Nominal: 1000, Err: 2}, {Name: "deep", Nominal: 800, Err: 2}, {Name: "edge", Nominal: 50, Err: 1}},
			Causes: []api.BkCause{{Name: "water", Amount: span(1, 4), Per: []int{-5, -4, 0}}, {Name: "worn", Amount: span(1, 3), Per: []int{-2, 0, -3}},
				{Name: "scale", Amount: span(1, 2), Per: []int{10, 8, 1}}},
			Measures: []api.BkMeasure{{Feature: 0, Shown: 990}, {Feature: 1, Shown: 793}}},
	}
}

// changed is the sample with a change.
func changed(change func(s *api.MdShop)) api.MdShop {
	s := sample()
	change(&s)
	return s
}

// fresh are the books with which work on a shop begins.
func fresh(s api.MdShop) api.MdBooks { return api.MdBooks{Shop: s} }

// same reports whether two values are equal, a nil slice and an empty one being the same.
func same(a, b any) bool { return sameValue(reflect.ValueOf(a), reflect.ValueOf(b)) }

func sameValue(a, b reflect.Value) bool {
	switch a.Kind() {
	case reflect.Struct:
		for i := range a.NumField() {
			if !sameValue(a.Field(i), b.Field(i)) {
				return false
			}
		}
		return true
	case reflect.Slice:
		if a.Len() != b.Len() {
			return false
		}
		for i := range a.Len() {
			if !sameValue(a.Index(i), b.Index(i)) {
				return false
			}
		}
		return true
	}
	return a.Equal(b)
}

// clone returns a value that shares no slices with another one.
func clone[T any](x T) T { return cloneValue(reflect.ValueOf(x)).Interface().(T) }

func cloneValue(x reflect.Value) reflect.Value {
	y := reflect.New(x.Type()).Elem()
	y.Set(x)
	switch x.Kind() {
	case reflect.Struct:
		for i := range x.NumField() {
			y.Field(i).Set(cloneValue(x.Field(i)))
		}
	case reflect.Slice:
		if x.IsNil() {
			return y
		}
		y.Set(reflect.MakeSlice(x.Type(), x.Len(), x.Len()))
		for i := range x.Len() {
			y.Index(i).Set(cloneValue(x.Index(i)))
		}
	}
	return y
}

// roomy returns a value that shares no slices with another one, each of which has room behind it.
func roomy[T any](x T) T {
	x = clone(x)
	slicesOf(reflect.ValueOf(&x).Elem(), func(s reflect.Value) {
		room := reflect.MakeSlice(s.Type(), s.Len(), s.Len()+3)
		reflect.Copy(room, s)
		s.Set(room)
	})
	return x
}

// hasRoom reports whether the room behind all slices of a roomy value is still empty.
func hasRoom[T any](x T) bool {
	is := true
	slicesOf(reflect.ValueOf(&x).Elem(), func(s reflect.Value) {
		for i := s.Len(); i < s.Cap(); i++ {
			is = is && s.Slice(0, s.Cap()).Index(i).IsZero()
		}
	})
	return is
}

// slicesOf calls a function with each slice of a value.
func slicesOf(x reflect.Value, do func(reflect.Value)) {
	switch x.Kind() {
	case reflect.Struct:
		for i := range x.NumField() {
			slicesOf(x.Field(i), do)
		}
	case reflect.Slice:
		do(x)
		for i := range x.Len() {
			slicesOf(x.Index(i), do)
		}
	}
}

// spoil changes whatever a value has in slices.
func spoil(x any) { spoilValue(reflect.ValueOf(x), false) }

func spoilValue(x reflect.Value, in bool) {
	switch x.Kind() {
	case reflect.Pointer:
		spoilValue(x.Elem(), in)
	case reflect.Struct:
		for i := range x.NumField() {
			spoilValue(x.Field(i), in)
		}
	case reflect.Slice:
		for i := range x.Len() {
			spoilValue(x.Index(i), true)
		}
	case reflect.Int:
		if in {
			x.SetInt(x.Int() + 77777)
		}
	case reflect.String:
		if in {
			x.SetString("spoilt")
		}
	}
}

// checkLine checks what Line does.
func checkLine(t *testing.T, what string, b api.MdBooks, line string, after api.MdBooks, answer string, e api.Errno) {
	t.Helper()
	is, told, f := modeller.Line(b, line)
	if !same(is, after) || told != answer || f != e {
		t.Errorf("%s: %q: Line = %q, %d, not %q, %d; books %v, not %v", what, line, told, f, answer, e, is, after)
	}
}

// checkRefused checks that Line returns an error, and nothing else.
func checkRefused(t *testing.T, what string, b api.MdBooks, line string, e api.Errno) {
	t.Helper()
	checkLine(t, what, b, line, api.MdBooks{}, "", e)
}

// checkAnswer checks that a line asks.
func checkAnswer(t *testing.T, what string, b api.MdBooks, line, answer string) {
	t.Helper()
	checkLine(t, what, b, line, b, answer, api.OK)
}

// done returns the books after some lines, none of which may be refused.
func done(t *testing.T, b api.MdBooks, lines ...string) api.MdBooks {
	t.Helper()
	for _, line := range lines {
		after, _, e := modeller.Line(b, line)
		if e != api.OK {
			t.Fatalf("%q is refused: %d", line, e)
		}
		b = after
	}
	return b
}

// worked returns the books and the answers of Work, which must have no error.
func worked(t *testing.T, s api.MdShop, lines []string) (api.MdBooks, []string) {
	t.Helper()
	b, answers, e := modeller.Work(s, lines)
	if e != api.OK || len(answers) != len(lines) {
		t.Fatalf("%q: Work = %q, %d", lines, answers, e)
	}
	return b, answers
}

// asked returns an answer, which must be no error.
func asked(t *testing.T, b api.MdBooks, line string) string {
	t.Helper()
	_, answer, e := modeller.Line(b, line)
	if e != api.OK {
		t.Fatalf("%q is refused: %d", line, e)
	}
	return answer
}

// spanAsked returns an answer that is a span.
func spanAsked(t *testing.T, b api.MdBooks, line string) api.Span {
	t.Helper()
	words := strings.Split(asked(t, b, line), " ")
	if len(words) != 2 {
		t.Fatalf("%q has the answer %q", line, words)
	}
	lo, _ := strconv.Atoi(words[0])
	hi, _ := strconv.Atoi(words[1])
	return span(lo, hi)
}

// What stands behind the first word of a line: the names of things, or numbers.
const (
	number     = 'n'
	point      = 'p'
	kind       = 'k'
	riverPoint = 'r'
	pinOf      = 'i'
	mould      = 'm'
	feature    = 'f'
	cause      = 'c'
)

// changing are the lines that change the books, and what stands behind their first words.
func changing(s api.MdShop) map[string]string {
	return map[string]string{"spot": "pnn", "contour": "pnn", "lake": "pp", "slope": "ppnn",
		"stack": "nnn" + strings.Repeat("n", len(s.Stack.Kinds)), "river": "rn", "pin": "in", "cast": "mnnn", "back": "fn"}
}

// asking are the lines that ask.
func asking() map[string]string {
	return map[string]string{"height": "p", "apart": "pp", "thick": "k", "boards": "", "water": "r", "correct": "", "seen": "n",
		"lengths": "", "scale": "n", "size": "mn", "cause": "c", "ask": ""}
}

// formOf returns what stands behind the first word of a line, and whether there is such a line.
func formOf(s api.MdShop, first string) (form string, is bool) {
	if form, is := changing(s)[first]; is {
		return form, true
	}
	form, is = asking()[first]
	return form, is
}

// names returns the names that a word can be.
func names(s api.MdShop, what rune) (names []string) {
	switch what {
	case point:
		return s.Sheet.Points
	case kind:
		for _, x := range s.Stack.Kinds {
			names = append(names, x.Name)
		}
	case riverPoint:
		for _, x := range s.Rivers {
			names = append(names, x.Name)
		}
	case pinOf:
		for _, x := range s.Model.Pins {
			names = append(names, x.Name)
		}
	case mould:
		for _, x := range s.Moulds.Moulds {
			names = append(names, x.Name)
		}
	case feature:
		for _, x := range s.Claim.Features {
			names = append(names, x.Name)
		}
	case cause:
		for _, x := range s.Claim.Causes {
			names = append(names, x.Name)
		}
	}
	return names
}

// parsed returns the first word of a line, and the numbers and indices that stand behind it, or ErrForm or ErrNone.
func parsed(s api.MdShop, line string) (first string, of []int, e api.Errno) {
	words := strings.Split(line, " ")
	form, is := formOf(s, words[0])
	if !is || len(words) != 1+len(form) || slices.Contains(words, "") {
		return "", nil, api.ErrForm
	}
	none := false
	for i, what := range form {
		word := words[1+i]
		if what != number {
			at := slices.Index(names(s, what), word)
			none = none || at < 0
			of = append(of, at)
			continue
		}
		if !regexp.MustCompile(`^(0|-?[1-9][0-9]{0,8})$`).MatchString(word) {
			return "", nil, api.ErrForm
		}
		n, _ := strconv.Atoi(word)
		of = append(of, n)
	}
	if none {
		return "", nil, api.ErrNone
	}
	return words[0], of, api.OK
}

// change does what a line that changes books says to them.
func change(b *api.MdBooks, first string, of []int) {
	note := func(kind int, n api.ShNote) {
		n.Kind, n.A = kind, of[0]
		b.Shop.Sheet.Notes = append(b.Shop.Sheet.Notes, n)
	}
	switch first {
	case "spot":
		note(api.ShSpot, api.ShNote{By: span(of[1], of[2])})
	case "contour":
		note(api.ShContour, api.ShNote{By: span(of[1], of[2])})
	case "lake":
		note(api.ShLake, api.ShNote{B: of[1]})
	case "slope":
		note(api.ShSlope, api.ShNote{B: of[1], By: span(of[2], of[3])})
	case "stack":
		b.Shop.Stack.Measures = append(b.Shop.Stack.Measures, api.SpMeasure{Air: of[0], Level: span(of[1], of[2]), Counts: of[3:]})
	case "river":
		b.Shop.Rivers[of[0]].Height = of[1]
	case "pin":
		b.Shop.Model.Pins[of[0]].Length = of[1]
	case "cast":
		b.Cast = append(b.Cast, api.CaSeen{Mould: of[0], Cast: of[1], Size: span(of[2], of[3])})
	case "back":
		b.Shop.Claim.Measures = append(b.Shop.Claim.Measures, api.BkMeasure{Feature: of[0], Shown: of[1]})
	}
}

// fault returns the error of books, other than that of the Log.
func fault(b api.MdBooks) api.Errno {
	if _, e := modeller.Check(b.Shop); e != api.OK {
		return e
	}
	if _, e := cast.CheckSeen(b.Shop.Moulds, b.Cast); e != api.OK {
		return e
	}
	if _, e := cast.Sizes(b.Shop.Moulds, b.Cast, api.CaPlace{}); e != api.OK {
		return api.ErrZero
	}
	return api.OK
}

// answer returns what the functions of the layers answer to a line that asks.
func answer(b api.MdBooks, first string, of []int) (string, api.Errno) {
	s := b.Shop
	switch first {
	case "height":
		l, e := sheet.Heights(s.Sheet)
		return fmt.Sprint(l[of[0]].Lo, l[of[0]].Hi), e
	case "apart":
		by, _, e := sheet.Apart(s.Sheet, of[0], of[1])
		return fmt.Sprint(by.Lo, by.Hi), e
	case "thick":
		l, e := step.Thick(s.Stack)
		return fmt.Sprint(l[of[0]].Lo, l[of[0]].Hi), e
	case "boards":
		plan, e := step.Plan(s.Stack)
		boards := 0
		for i, counts := range plan {
			boards = 0
			for k := range counts {
				boards += plan[i][k]
			}
		}
		return fmt.Sprint(boards), e
	case "water":
		l, e := river.Poured(s.Rivers, of[0])
		return s.Rivers[l[len(l)-1]].Name, e
	case "correct":
		l, e := river.Fewest(s.Rivers)
		return fmt.Sprint(len(l)), e
	case "seen":
		sure, _, e := pin.Seen(s.Model, of[0])
		return fmt.Sprint(len(sure)), e
	case "lengths":
		l, e := pin.Lengths(s.Model)
		return strings.Trim(fmt.Sprint(l), "[]"), e
	case "scale":
		greatest, e := scale.Greatest(s.Scale, of[0])
		return fmt.Sprint(greatest.Up, greatest.Down), e
	case "size":
		by, e := cast.Sizes(s.Moulds, b.Cast, api.CaPlace{Mould: of[0], Cast: of[1]})
		return fmt.Sprint(by.Lo, by.Hi), e
	case "cause":
		must, may, e := back.Must(s.Claim)
		told := "none"
		if slices.Contains(may, of[0]) {
			told = "may"
		}
		if slices.Contains(must, of[0]) {
			told = "must"
		}
		return told, e
	}
	at, _, e := back.Ask(s.Claim)
	return s.Claim.Features[at].Name, e
}

// expected returns what Line should, for books without an error: found with tables of words, and by the functions of the
// layers.
func expected(b api.MdBooks, line string) (after api.MdBooks, told string, e api.Errno) {
	if len(line) > 80 {
		return api.MdBooks{}, "", api.ErrLong
	}
	first, of, e := parsed(b.Shop, line)
	if e != api.OK {
		return api.MdBooks{}, "", e
	}
	after = clone(b)
	if _, changes := changing(b.Shop)[first]; changes {
		change(&after, first, of)
		e = fault(after)
		if e == api.OK && len(after.Log) == 30 {
			e = api.ErrLong
		}
		after.Log = append(after.Log, line)
	} else {
		told, e = answer(b, first, of)
	}
	if e != api.OK {
		return api.MdBooks{}, "", e
	}
	return after, told, api.OK
}
