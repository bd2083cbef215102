package sheet_test

import (
	"strings"
	"testing"

	"hachure/api"
	"hachure/sheet"
)

// P1.7
func TestWriteAndRead(t *testing.T) {
	for i, c := range []struct {
		s    api.ShSheet
		text string
	}{
		{valley(), "sheet 100\npoint tor\npoint mere\npoint ford\npoint dam\nspot tor 1180 1200\ncontour mere 9 10\nlake dam mere\nslope tor ford 250 300\n"},
		{api.ShSheet{Interval: 1000, Points: []string{"a"}}, "sheet 1000\npoint a\n"},
		{plain(slope(2, 0, -9000, -0), spot(1, 0, 0), lake(0, 2)), "sheet 2\npoint a\npoint b\npoint c\nslope c a -9000 0\nspot b 0 0\nlake a c\n"},
		{plain(spot(0, 1, 1), spot(0, 2, 2)), "sheet 2\npoint a\npoint b\npoint c\nspot a 1 1\nspot a 2 2\n"},
		{api.ShSheet{Interval: 7, Points: []string{"point", "lake", "sheet"}, Notes: []api.ShNote{lake(1, 0)}}, "sheet 7\npoint point\npoint lake\npoint sheet\nlake lake point\n"},
	} {
		text, e := sheet.Write(c.s)
		s, f := sheet.Read(c.text)
		if text != c.text || e != api.OK || !same(s, c.s) || f != api.OK {
			t.Errorf("%d: Write = %q, %d; Read = %v, %d", i, text, e, s, f)
		}
	}
}

// P1.7: what is almost a text of a sheet.
func TestReadForm(t *testing.T) {
	const good = "sheet 5\npoint a\npoint b\nspot a 7 8\nslope a b -3 4\nlake a b\ncontour b 1 2\n"
	if _, e := sheet.Read(good); e != api.OK {
		t.Fatalf("Read = %d", e)
	}
	for _, c := range [][2]string{
		{"sheet 5", "sheet"}, {"sheet 5", "sheet 0"}, {"sheet 5", "sheet 05"}, {"sheet 5", "sheet +5"}, {"sheet 5", "sheet -5"},
		{"sheet 5", "sheet 1001"}, {"sheet 5", "sheet 99999999999999999999"}, {"sheet 5", "sheet five"}, {"sheet 5", "sheet 5 "},
		{"sheet 5", " sheet 5"}, {"sheet 5", "sheet  5"}, {"sheet 5", "sheet\t5"}, {"sheet 5", "Sheet 5"}, {"sheet 5\n", "sheet 5\r\n"},
		{"sheet 5", "sheet 5.0"}, {"sheet 5", "sheet 0x5"}, {"sheet 5", "sheet 1_0"}, {"sheet 5", "sheet \u0665"}, {"sheet 5\n", ""},
		{"sheet 5\n", "sheet 5\n\n"}, {"sheet 5\n", "sheet 5\nsheet 5\n"}, {"sheet 5\n", "sheet 4\nsheet 5\n"}, {"sheet 5\n", "sheet 5 6\n"},
		{"point a\n", ""}, {"point a", "point"}, {"point a", "point "}, {"point a", "point A"}, {"point a", "point a b"}, {"point a", "point b"},
		{"point a\n", "point a\npoint a\n"}, {"point b\n", "point b\npoint c\npoint d\npoint e\npoint f\npoint g\npoint h\npoint i\n"},
		{"spot a 7 8", "spot c 7 8"}, {"spot a 7 8", "spot a 7"}, {"spot a 7 8", "spot a 7 8 9"}, {"spot a 7 8", "spot a 8 7"},
		{"spot a 7 8", "spot a b 7 8"}, {"spot a 7 8", "spot a -1 8"}, {"spot a 7 8", "spot a 7 9001"}, {"spot a 7 8", "spot a 7 a"},
		{"spot a 7 8", "spot a 7 -"}, {"spot a 7 8", "spot a 7 "}, {"spot a 7 8", "spot a -0 8"}, {"spot a 7 8", "spot"}, {"spot a 7 8", "spots a 7 8"},
		{"-3 4", "-03 4"}, {"-3 4", "- 3 4"}, {"-3 4", "--3 4"}, {"-3 4", "-9001 4"}, {"-3 4", "-3 -4"}, {"slope a b", "slope a a"}, {"slope a b", "slope a"},
		{"lake a b", "lake a"}, {"lake a b", "lake a a"}, {"lake a b", "lake a b 0 0"}, {"lake a b", "lake a c"}, {"lake a b\n", "lake a b"},
		{"contour b 1 2", "contour b 1 1"}, {"contour b 1 2", "contour b 2 1"}, {"contour b 1 2", "contour b 1 1801"}, {"contour b 1 2", "contour b"},
		{"1 2\n", "1 2"}, {"1 2\n", "1 2\n\n"}, {"1 2\n", "1 2\n "}, {"1 2\n", "1 2\npoint c\n"}, {"1 2\n", "1 2\nsheet 5\n"}, {"1 2\n", "1 2\n" + strings.Repeat("spot a 7 8\n", 9)},
	} {
		text := strings.Replace(good, c[0], c[1], 1)
		if s, e := sheet.Read(text); text == good || e != api.ErrForm || !same(s, api.ShSheet{}) {
			t.Errorf("%q: Read = %v, %d", text, s, e)
		}
	}
	for _, text := range []string{"", "\n", "sheet 5\n", "point a\n", "sheet 5", " ", "sheet 5\nspot a 7 8\npoint a\n", good + good, strings.Repeat("\n", 1500), strings.Repeat("spot ", 300)} {
		if s, e := sheet.Read(text); e != api.ErrForm || !same(s, api.ShSheet{}) {
			t.Errorf("%q: Read = %v, %d", text, s, e)
		}
	}
	for _, n := range []int{1501, 1 << 20} {
		if s, e := sheet.Read(strings.Repeat("a", n)); e != api.ErrLong || !same(s, api.ShSheet{}) {
			t.Errorf("%d bytes: Read = %v, %d", n, s, e)
		}
	}
}

// P1.15: Read of what Write returns is the sheet; each text that is read is written the same.
func TestBytes(t *testing.T) {
	d := dice(11)
	for i := range 300 {
		s, _ := d.tale(d.from(2, 8), d.roll(13), d.roll(40))
		text, e := sheet.Write(s)
		read, f := sheet.Read(text)
		if e != api.OK || f != api.OK || !same(read, s) {
			t.Fatalf("%d: %v: Write = %q, %d; Read = %v, %d", i, s, text, e, read, f)
		}
		for range 40 {
			checkSpoilt(t, d.spoil(text))
		}
	}
	longest := api.ShSheet{Interval: 1000}
	for i := range 8 {
		longest.Points = append(longest.Points, strings.Repeat("n", 15)+string(rune('a'+i)))
	}
	for range 12 {
		longest.Notes = append(longest.Notes, slope(0, 1, -9000, -9000))
	}
	text, e := sheet.Write(longest)
	if s, f := sheet.Read(text); e != api.OK || f != api.OK || !same(s, longest) {
		t.Errorf("the longest text, %d bytes: %d, %d", len(text), e, f)
	}
}

// spoil returns a text with a byte that is changed, left out, or put in.
func (d *dice) spoil(text string) string {
	const bytes = "\n 019-+abt\x00"
	at, c := d.roll(len(text)), string(bytes[d.roll(len(bytes))])
	switch d.roll(3) {
	case 0:
		return text[:at] + text[at+1:]
	case 1:
		return text[:at] + c + text[at:]
	}
	return text[:at] + c + text[at+1:]
}

func checkSpoilt(t *testing.T, text string) {
	t.Helper()
	s, e := sheet.Read(text)
	switch e {
	case api.OK:
		if again, f := sheet.Write(s); again != text || f != api.OK {
			t.Errorf("%q is read as %v, and written as %q, %d", text, s, again, f)
		}
	case api.ErrForm:
		if !same(s, api.ShSheet{}) {
			t.Errorf("%q: Read = %v, %d", text, s, e)
		}
	default:
		t.Errorf("%q: Read = %v, %d", text, s, e)
	}
}
