package sheet

import (
	"strconv"
	"strings"

	"hachure/api"
)

// Write returns the text of a sheet.
func Write(s api.ShSheet) (string, api.Errno) {
	if _, _, e := Check(s); e != api.OK {
		return "", e
	}
	l := looked{ShSheet: s}
	text := line("sheet", strconv.Itoa(s.Interval))
	for _, name := range s.Points {
		text += line("point", name)
	}
	for _, n := range s.Notes {
		text += line(l.words(n)...)
	}
	return text, api.OK
}

// line returns a line of words.
func line(words ...string) string { return strings.Join(words, " ") + "\n" }

// words returns the words of a note.
func (l looked) words(n api.ShNote) []string {
	a, b := l.Points[n.A], l.Points[n.B]
	lo, hi := strconv.Itoa(n.By.Lo), strconv.Itoa(n.By.Hi)
	switch l.saying(n).(type) {
	case contour:
		return []string{"contour", a, lo, hi}
	case lake:
		return []string{"lake", a, b}
	case slope:
		return []string{"slope", a, b, lo, hi}
	}
	return []string{"spot", a, lo, hi}
}

// Read returns the sheet with a text.
func Read(text string) (s api.ShSheet, e api.Errno) {
	if len(text) > api.MaxShText {
		return api.ShSheet{}, api.ErrLong
	}
	defer func() {
		if recover() != nil {
			s, e = api.ShSheet{}, api.ErrForm
		}
	}()
	r := reader{points: map[string]int{}}
	for _, line := range strings.Split(strings.TrimSuffix(text, "\n"), "\n") {
		r.words = strings.Split(line, " ")
		r.line()
	}
	// The reader is loose about signs, zeros, further words and the order of lines: just what is written has the form.
	if again, fault := Write(r.ShSheet); fault != api.OK || again != text {
		panic(api.ErrForm)
	}
	return r.ShSheet, api.OK
}

// reader is the sheet that was read so far, where its points are, and the words of a line that are left. It panics
// where a text has not the form.
type reader struct {
	api.ShSheet
	points map[string]int
	words  []string
}

// line reads a line.
func (r *reader) line() {
	switch r.word() {
	case "sheet":
		r.Interval = r.number()
	case "point":
		r.name()
	case "spot":
		r.note(api.ShSpot)
	case "contour":
		r.note(api.ShContour)
	case "lake":
		r.note(api.ShLake)
	case "slope":
		r.note(api.ShSlope)
	default:
		panic(api.ErrForm)
	}
}

// word reads a word.
func (r *reader) word() string {
	if len(r.words) == 0 {
		panic(api.ErrForm)
	}
	word := r.words[0]
	r.words = r.words[1:]
	return word
}

// number reads a number.
func (r *reader) number() int {
	n, err := strconv.Atoi(r.word())
	if err != nil {
		panic(api.ErrForm)
	}
	return n
}

// name reads the name of a further point. It is cloned, as a result shares no memory with the text.
func (r *reader) name() {
	name := strings.Clone(r.word())
	r.points[name] = len(r.Points)
	r.Points = append(r.Points, name)
}

// point reads the name of a point that is known, and returns its index.
func (r *reader) point() int {
	at, known := r.points[r.word()]
	if !known {
		panic(api.ErrForm)
	}
	return at
}

// note reads the points of a note, and its ends.
func (r *reader) note(kind int) {
	n := api.ShNote{Kind: kind, A: r.point()}
	if kind == api.ShLake || kind == api.ShSlope {
		n.B = r.point()
	}
	if kind != api.ShLake {
		n.By.Lo = r.number()
		n.By.Hi = r.number()
	}
	r.Notes = append(r.Notes, n)
}
