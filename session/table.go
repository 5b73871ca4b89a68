package session

import (
	"slices"

	"longshore/octet"
)

// table is things by their numbers.
type table[T any] map[int]T

func (t table[T]) has(n int) bool {
	_, is := t[n]
	return is
}

// drop takes away all things that are to go.
func (t table[T]) drop(goes func(T) bool) {
	for n, thing := range t {
		if goes(thing) {
			delete(t, n)
		}
	}
}

// from are the things whose serial numbers lie from first to last, in this order.
func (t table[T]) from(first, last int) []T {
	var things []T
	for _, gap := range t.gaps(first, octet.Gap(first, last)) {
		things = append(things, t[octet.Add(first, gap)])
	}
	return things
}

// gaps tells, rising, how far behind first the numbers of things lie, if that is at most so far.
func (t table[T]) gaps(first, far int) []int {
	var gaps []int
	if far < len(t) {
		// Asked number by number: whoever takes a great table's things one by one doesn't go over all of it each time.
		for gap := range far + 1 {
			if t.has(octet.Add(first, gap)) {
				gaps = append(gaps, gap)
			}
		}
		return gaps
	}
	for n := range t {
		if gap := octet.Gap(first, n); gap >= 0 && gap <= far {
			gaps = append(gaps, gap)
		}
	}
	slices.Sort(gaps)
	return gaps
}
