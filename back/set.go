package back

import (
	"cmp"
	"math/bits"
)

// set is a set of causes, or of measures: the bit of each one, by its index.
type set uint

// with returns the set with one more number.
func (s set) with(n int) set { return s | 1<<n }

// has reports whether another set is a part of the set, or all of it.
func (s set) has(part set) bool { return part&^s == 0 }

// size returns how many numbers the set has.
func (s set) size() int { return bits.OnesCount(uint(s)) }

// numbers returns the numbers of the set, ascending.
func (s set) numbers() (list []int) {
	for n := range bits.Len(uint(s)) {
		if s.has(set(0).with(n)) {
			list = append(list, n)
		}
	}
	return list
}

// compare tells which of two sets comes first in order. Of two that are as large it is the one with the least number that
// the other one does not have: up to there their lists are the same.
func (s set) compare(other set) int {
	differ := s ^ other
	least := differ & -differ
	switch {
	case s.size() != other.size():
		return cmp.Compare(s.size(), other.size())
	case differ == 0:
		return 0
	case s.has(least):
		return -1
	}
	return 1
}
