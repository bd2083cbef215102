package modeller

import (
	"iter"
	"strings"

	"hachure/api"
)

// maxDigits is how many digits a number of a line has at most.
const maxDigits = 9

// linesOf yields the lines of a file.
func linesOf(file string) iter.Seq[string] {
	return func(yield func(string) bool) {
		for rest := file; rest != ""; {
			line, behind, _ := strings.Cut(rest, "\n")
			if !yield(line) {
				return
			}
			rest = behind
		}
	}
}

// reader takes the words of a line, one after the other, and finds what they name in a shop. It panics where a line has none
// of the forms; a name that is none it just keeps in mind, as a later word can still be no number, which comes first.
type reader struct {
	shop    api.MdShop
	words   []string
	unknown bool
}

// read returns what a line does in a shop.
func read(s api.MdShop, line string) (d deed, e api.Errno) {
	defer func() {
		if recover() != nil {
			d, e = nil, api.ErrForm
		}
	}()
	r := &reader{shop: s, words: strings.Split(line, " ")}
	d = r.deed()
	if r.unknown {
		return nil, api.ErrNone
	}
	return d, api.OK
}

// deed reads all words.
func (r *reader) deed() deed {
	form, is := r.forms()[r.word()]
	if !is {
		panic(api.ErrForm)
	}
	d := form()
	if len(r.words) > 0 {
		panic(api.ErrForm)
	}
	return d
}

// forms returns what reads the words behind the first one of a line, by this word.
func (r *reader) forms() map[string]func() deed {
	return map[string]func() deed{
		"spot":    r.spot,
		"contour": r.contour,
		"lake":    r.lake,
		"slope":   r.slope,
		"stack":   r.stack,
		"river":   r.river,
		"pin":     r.pin,
		"cast":    r.cast,
		"back":    r.back,
		"height":  r.height,
		"apart":   r.apart,
		"thick":   r.thick,
		"boards":  r.boards,
		"water":   r.water,
		"correct": r.correct,
		"seen":    r.seen,
		"lengths": r.lengths,
		"scale":   r.scale,
		"size":    r.size,
		"cause":   r.cause,
		"ask":     r.ask,
	}
}

// word reads a word. Where spaces are not single ones there is an empty one, which is none.
func (r *reader) word() string {
	if len(r.words) == 0 || r.words[0] == "" {
		panic(api.ErrForm)
	}
	word := r.words[0]
	r.words = r.words[1:]
	return word
}

// number reads a number.
func (r *reader) number() int {
	word := r.word()
	digits := strings.TrimPrefix(word, "-")
	if !within(1, maxDigits, len(digits)) || digits[0] == '0' && word != "0" {
		panic(api.ErrForm)
	}
	n := 0
	for _, c := range digits {
		if c < '0' || c > '9' {
			panic(api.ErrForm)
		}
		n = 10*n + int(c-'0')
	}
	if digits != word {
		return -n
	}
	return n
}

// span reads two numbers.
func (r *reader) span() api.Span {
	lo := r.number()
	hi := r.number()
	return api.Span{Lo: lo, Hi: hi}
}

// found reads the name of one of some things, and returns its index.
func found[T any](r *reader, things []T, nameOf func(T) string) int {
	name := r.word()
	for i, thing := range things {
		if nameOf(thing) == name {
			return i
		}
	}
	r.unknown = true
	return 0
}

// point, kind, riverPoint, pinNamed, mould, feature and causeNamed read the name of such a thing, and return its index.
func (r *reader) point() int {
	return found(r, r.shop.Sheet.Points, func(name string) string { return name })
}

func (r *reader) kind() int {
	return found(r, r.shop.Stack.Kinds, func(k api.SpKind) string { return k.Name })
}

func (r *reader) riverPoint() int {
	return found(r, r.shop.Rivers, func(p api.RvPoint) string { return p.Name })
}

func (r *reader) pinNamed() int {
	return found(r, r.shop.Model.Pins, func(p api.PnPin) string { return p.Name })
}

func (r *reader) mould() int {
	return found(r, r.shop.Moulds.Moulds, func(m api.CaMould) string { return m.Name })
}

func (r *reader) feature() int {
	return found(r, r.shop.Claim.Features, func(f api.BkFeature) string { return f.Name })
}

func (r *reader) causeNamed() int {
	return found(r, r.shop.Claim.Causes, func(c api.BkCause) string { return c.Name })
}
