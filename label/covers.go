package label

import (
	"slices"

	"cloister/api"
)

// Covers tells which labels stand right below which.
func Covers(labels []api.Label) [][2]int {
	sets := distinct(labels)
	stand := map[api.Label][]int{}
	for i, l := range labels {
		stand[l] = append(stand[l], i)
	}
	above := map[api.Label][]int{}
	for i, l := range sets {
		for _, next := range rightAbove(l, sets[i+1:]) {
			above[l] = append(above[l], stand[next]...)
		}
		slices.Sort(above[l])
	}
	var pairs [][2]int
	for i, l := range labels {
		for _, j := range above[l] {
			pairs = append(pairs, [2]int{i, j})
		}
	}
	return pairs
}

// Heights tells how many labels stand below each one, at most, each below the next.
func Heights(labels []api.Label) []int {
	sets := distinct(labels)
	high := make([]int, len(sets))
	for i, l := range sets {
		for j, under := range sets[:i] {
			if Leq(under, l) {
				high[i] = max(high[i], high[j]+1)
			}
		}
	}
	heights := make([]int, len(labels))
	for i, l := range labels {
		at, _ := slices.BinarySearch(sets, l)
		heights[i] = high[at]
	}
	return heights
}

// distinct is the labels, rising, none twice. A label below another one is the lesser number, so each stands behind all that are below it.
func distinct(labels []api.Label) []api.Label {
	sets := slices.Clone(labels)
	slices.Sort(sets)
	return slices.Compact(sets)
}

// rightAbove tells which of the greater numbers are above l with nothing between. What is between stands ahead in greater, so it is enough to look at those found already.
func rightAbove(l api.Label, greater []api.Label) []api.Label {
	var found []api.Label
	for _, x := range greater {
		between := func(y api.Label) bool { return Leq(y, x) }
		if Leq(l, x) && !slices.ContainsFunc(found, between) {
			found = append(found, x)
		}
	}
	return found
}
