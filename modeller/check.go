package modeller

import (
	"hachure/api"
	"hachure/back"
	"hachure/cast"
	"hachure/pin"
	"hachure/river"
	"hachure/scale"
	"hachure/sheet"
	"hachure/step"
)

// within reports whether a number is from lo to hi.
func within(lo, hi, n int) bool { return lo <= n && n <= hi }

// faultOf returns just the error of what a layer's Check returns.
func faultOf(_, _ int, e api.Errno) api.Errno { return e }

// formFaults returns the error of each thing of a shop, as its layer tells it.
func formFaults(s api.MdShop) [7]api.Errno {
	return [...]api.Errno{
		faultOf(sheet.Check(s.Sheet)),
		faultOf(step.Check(s.Stack)),
		faultOf(river.Check(s.Rivers)),
		faultOf(pin.Check(s.Model)),
		faultOf(scale.Check(s.Scale)),
		faultOf(cast.Check(s.Moulds)),
		faultOf(back.Check(s.Claim)),
	}
}

// truthFaults returns ErrZero for each of the sheet, the stack and the claim that no truth agrees with. The shop has to be
// without an error otherwise.
func truthFaults(s api.MdShop) (faults [3]api.Errno) {
	if fits, _ := sheet.Fits(s.Sheet); !fits {
		faults[0] = api.ErrZero
	}
	_, faults[1] = step.Thick(s.Stack)
	_, faults[2] = back.Plainest(s.Claim)
	return faults
}

// logFault returns the error of a Log.
func logFault(log []string) api.Errno {
	if len(log) > api.MaxMdLog {
		return api.ErrLong
	}
	for _, line := range log {
		if len(line) > api.MaxMdLine {
			return api.ErrLong
		}
	}
	return api.OK
}
