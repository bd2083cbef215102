package pin

import (
	"iter"
	"slices"

	"hachure/api"
)

// lengths are those of all pins.
type lengths [api.MaxPnPins]int

// tops are those of all fields.
type tops [api.MaxPnSide * api.MaxPnSide]int

// looked is a model that is looked at: its fields, how long its pins are now, and the tops of fields with such pins.
type looked struct {
	api.PnModel
	fields
	long lengths
	tops tops
}

// look returns a model that is looked at, or its error.
func look(m api.PnModel) (*looked, api.Errno) {
	if _, _, e := Check(m); e != api.OK {
		return nil, e
	}
	return lookAt(m), api.OK
}

// lookAt returns a model without an error as it is looked at.
func lookAt(m api.PnModel) *looked {
	l := &looked{PnModel: m, fields: fieldsOf(m)}
	var long lengths
	for pin, p := range m.Pins {
		long[pin] = p.Length
	}
	return l.with(long)
}

// with returns the model with pins of other lengths.
func (l *looked) with(long lengths) *looked {
	other := *l
	other.long = long
	copy(other.tops[:], l.Heights)
	for pin, p := range l.Pins {
		other.tops[l.fields[placeOf(p)]] += long[pin]
	}
	return &other
}

// having returns the model with another length of one pin.
func (l *looked) having(pin, length int) *looked {
	long := l.long
	long[pin] = length
	return l.with(long)
}

// those returns the pins of which something is so, ascending.
func (l *looked) those(is func(pin int) bool) (pins []int) {
	for pin := range l.Pins {
		if is(pin) {
			pins = append(pins, pin)
		}
	}
	return pins
}

// all reports whether something is so of each pin.
func (l *looked) all(is func(pin int) bool) bool { return len(l.those(is)) == len(l.Pins) }

// view is what is seen of a model from a place, with eyes at some height.
type view struct {
	*looked
	from place
	eye  int
}

// at returns what is seen from a stand with eyes at some height.
func (l *looked) at(s api.PnStand, eye int) view { return view{l, place{s.X, s.Y}, eye} }

// surely returns what is surely seen from a stand.
func (l *looked) surely(s api.PnStand) view { return l.at(s, s.Eye.Lo) }

// hiding yields the fields that hide a pin, the nearest first.
func (v view) hiding(pin int) iter.Seq[int] {
	return func(yield func(int) bool) {
		to := placeOf(v.Pins[pin])
		top := v.tops[v.fields[to]]
		for s := range v.between(v.from, to) {
			hides := v.tops[s.field]*(s.from+s.to) >= v.eye*s.to+top*s.from
			if hides && !yield(s.field) {
				return
			}
		}
	}
}

// shows reports whether a pin is seen.
func (v view) shows(pin int) bool {
	for range v.hiding(pin) {
		return false
	}
	return true
}

// shown reports whether a pin is surely seen from each stand.
func (l *looked) shown(pin int) bool {
	return !slices.ContainsFunc(l.Stands, func(s api.PnStand) bool { return !l.surely(s).shows(pin) })
}

// hidden returns the first stand from which a pin is not surely seen, and the field that hides it, the nearest to the
// stand.
func (l *looked) hidden(pin int) (stand, field int) {
	for stand, s := range l.Stands {
		for field := range l.surely(s).hiding(pin) {
			return stand, field
		}
	}
	return 0, 0
}
