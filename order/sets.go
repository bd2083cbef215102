package order

import "iter"

// sets yields all sets of orders, as ascending lists, the first ones first.
func (l *looked) sets() iter.Seq[[]int] {
	return func(yield func([]int) bool) { l.beginning(nil, 0, yield) }
}

// beginning yields a list of orders, and then all lists that it begins: what follows are orders from some order on. It
// reports whether more are wanted.
func (l *looked) beginning(list []int, from int, yield func([]int) bool) bool {
	if !yield(list) {
		return false
	}
	for order := from; order < len(l.Orders); order++ {
		if !l.beginning(append(list[:len(list):len(list)], order), order+1, yield) {
			return false
		}
	}
	return true
}

// most returns the orders that can be kept and are worth most, of those sets that may be taken, and what they are worth. Of
// several such sets it returns the first one; if there is none, -1 as worth.
func (l *looked) most(may func(taken []int) bool) (best []int, worth int) {
	worth = -1
sets:
	for taken := range l.sets() {
		if !may(taken) {
			continue
		}
		t := l.taking(taken)
		for day := range len(l.Hours) {
			if t.late(day) {
				continue sets
			}
		}
		if more := t.worth(); more > worth {
			best, worth = taken, more
		}
	}
	return best, worth
}
