package lanes

import "slices"

// Merge makes one list of several. Each step asks the order of all candidates anew, since it need not be one by which things can be ranked.
func Merge[T any](order func(a, b T) int, lists ...[]T) []T {
	if order == nil {
		return slices.Concat(lists...)
	}
	rests, count := leftOver(lists)
	merged := make([]T, 0, count)
	for len(rests) > 0 {
		at := candidate(order, rests)
		merged = append(merged, rests[at][0])
		rests[at] = rests[at][1:]
		if len(rests[at]) == 0 {
			rests = slices.Delete(rests, at, at+1)
		}
	}
	return merged
}

// leftOver is the lists that have something left, in a list of its own since it will shrink, and how many things they have.
func leftOver[T any](lists [][]T) (rests [][]T, count int) {
	for _, list := range lists {
		if len(list) > 0 {
			rests = append(rests, list)
			count += len(list)
		}
	}
	return rests, count
}

// candidate is the place of the list whose beginning is taken next.
func candidate[T any](order func(a, b T) int, rests [][]T) int {
	last := 0
	for at := 1; at < len(rests); at++ {
		if order(rests[at][0], rests[last][0]) < 0 {
			last = at
		}
	}
	return last
}
