package modeller

import (
	"slices"
	"strconv"
	"strings"

	"hachure/api"
	"hachure/back"
	"hachure/cast"
	"hachure/pin"
	"hachure/river"
	"hachure/scale"
	"hachure/sheet"
	"hachure/step"
)

// joined returns numbers with single spaces between them.
func joined(numbers ...int) string {
	words := make([]string, len(numbers))
	for i, n := range numbers {
		words[i] = strconv.Itoa(n)
	}
	return strings.Join(words, " ")
}

// height asks how high a point is.
func (r *reader) height() deed {
	at := r.point()
	return question(func(b books) (string, api.Errno) {
		heights, e := sheet.Heights(b.Sheet)
		if e != api.OK {
			return "", e
		}
		return joined(heights[at].Lo, heights[at].Hi), api.OK
	})
}

// apart asks by how much a point is above another one.
func (r *reader) apart() deed {
	at := r.point()
	other := r.point()
	return question(func(b books) (string, api.Errno) {
		by, _, e := sheet.Apart(b.Sheet, at, other)
		return joined(by.Lo, by.Hi), e
	})
}

// thick asks how thick boards of a kind are.
func (r *reader) thick() deed {
	at := r.kind()
	return question(func(b books) (string, api.Errno) {
		thick, e := step.Thick(b.Stack)
		if e != api.OK {
			return "", e
		}
		return joined(thick[at].Lo, thick[at].Hi), api.OK
	})
}

// boards asks how many boards the plan has.
func (r *reader) boards() deed {
	return question(func(b books) (string, api.Errno) {
		plan, e := step.Plan(b.Stack)
		if e != api.OK || len(plan) == 0 {
			return joined(0), e
		}
		boards := 0
		for _, n := range plan[len(plan)-1] {
			boards += n
		}
		return joined(boards), api.OK
	})
}

// water asks where water stops that is poured at a point.
func (r *reader) water() deed {
	at := r.riverPoint()
	return question(func(b books) (string, api.Errno) {
		comes, e := river.Poured(b.Rivers, at)
		if e != api.OK {
			return "", e
		}
		last := comes[len(comes)-1]
		return b.Rivers[last].Name, api.OK
	})
}

// correct asks how many points of the rivers have to be corrected.
func (r *reader) correct() deed {
	return question(func(b books) (string, api.Errno) {
		fewest, e := river.Fewest(b.Rivers)
		return joined(len(fewest)), e
	})
}

// seen asks how many pins are surely seen from a stand.
func (r *reader) seen() deed {
	stand := r.number()
	return question(func(b books) (string, api.Errno) {
		sure, _, e := pin.Seen(b.Model, stand)
		return joined(len(sure)), e
	})
}

// lengths asks how long pins have to be.
func (r *reader) lengths() deed {
	return question(func(b books) (string, api.Errno) {
		lengths, e := pin.Lengths(b.Model)
		return joined(lengths...), e
	})
}

// scale asks for the greatest scale.
func (r *reader) scale() deed {
	limit := r.number()
	return question(func(b books) (string, api.Errno) {
		s, e := scale.Greatest(b.Scale, limit)
		return joined(s.Up, s.Down), e
	})
}

// size asks which sizes a cast can have.
func (r *reader) size() deed {
	at := api.CaPlace{Mould: r.mould()}
	at.Cast = r.number()
	return question(func(b books) (string, api.Errno) {
		size, e := cast.Sizes(b.Moulds, b.cast, at)
		return joined(size.Lo, size.Hi), e
	})
}

// cause asks whether a cause must be there.
func (r *reader) cause() deed {
	at := r.causeNamed()
	return question(func(b books) (string, api.Errno) {
		must, may, e := back.Must(b.Claim)
		switch {
		case slices.Contains(must, at):
			return "must", e
		case slices.Contains(may, at):
			return "may", e
		}
		return "none", e
	})
}

// ask asks which feature is best measured next.
func (r *reader) ask() deed {
	return question(func(b books) (string, api.Errno) {
		feature, _, e := back.Ask(b.Claim)
		if e != api.OK {
			return "", e
		}
		return b.Claim.Features[feature].Name, api.OK
	})
}
