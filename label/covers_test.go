package label_test

import (
	"fmt"
	"slices"
	"testing"

	"cloister/api"
	"cloister/label"
)

// coversOf is the document's words: all pairs, with nothing between.
func coversOf(labels []api.Label) [][2]int {
	var pairs [][2]int
	for i, a := range labels {
		for j, b := range labels {
			between := func(c api.Label) bool { return below(a, c) && below(c, b) }
			if below(a, b) && !slices.ContainsFunc(labels, between) {
				pairs = append(pairs, [2]int{i, j})
			}
		}
	}
	return pairs
}

// heightOf is the document's words: one more than the highest below it.
func heightOf(labels []api.Label, l api.Label, known map[api.Label]int) int {
	if h, ok := known[l]; ok {
		return h
	}
	h := 0
	for _, x := range labels {
		if below(x, l) {
			h = max(h, 1+heightOf(labels, x, known))
		}
	}
	known[l] = h
	return h
}

// P1.5
func TestCovers(t *testing.T) {
	same(t, "a square", label.Covers(set(0, 1, 2, 3)), [][2]int{{0, 1}, {0, 2}, {1, 3}, {2, 3}})
	same(t, "a label twice", label.Covers(set(0, 1, 3, 7, 3)), [][2]int{{0, 1}, {1, 2}, {1, 4}, {2, 3}, {4, 3}})
	same(t, "a label twice below", label.Covers(set(3, 0, 0)), [][2]int{{1, 0}, {2, 0}})
	same(t, "falling", label.Covers(set(7, 3, 1)), [][2]int{{1, 0}, {2, 1}})
	same(t, "one label twice", label.Covers(set(1, 1)), [][2]int{})
	same(t, "none", label.Covers(nil), [][2]int{})
	same(t, "the thing 63", label.Covers(set(top, 0, top|1)), [][2]int{{0, 2}, {1, 0}})
	for _, labels := range lists() {
		same(t, fmt.Sprint("Covers ", labels), label.Covers(labels), coversOf(labels))
	}
}

// P1.6
func TestHeights(t *testing.T) {
	same(t, "a square", label.Heights(set(0, 1, 2, 3)), []int{0, 1, 1, 2})
	same(t, "a label twice", label.Heights(set(7, 1, 1, 3)), []int{2, 0, 0, 1})
	same(t, "none", label.Heights(nil), []int{})
	same(t, "two ways of unlike lengths", label.Heights(set(0, 8, 1, 3, 15)), []int{0, 1, 1, 2, 3})
	for _, labels := range lists() {
		var want []int
		known := map[api.Label]int{}
		for _, l := range labels {
			want = append(want, heightOf(labels, l, known))
		}
		same(t, fmt.Sprint("Heights ", labels), label.Heights(labels), want)
	}
	long := append(chainOf(64), ^api.Label(0))
	same(t, "the longest way", label.Heights(long)[64], 64)
}

// P1.11
func TestWaysUp(t *testing.T) {
	for _, labels := range lists() {
		heights, reach := label.Heights(labels), reached(labels)
		for i, a := range labels {
			for j, b := range labels {
				inDown := slices.Contains(label.Down(labels, b), i)
				inUp := slices.Contains(label.Up(labels, a), j)
				same(t, fmt.Sprintf("%v: %d down from %d", labels, i, j), inDown, inUp)
				same(t, fmt.Sprintf("%v: a way from %d to %d", labels, i, j), reach[[2]int{i, j}], below(a, b))
				if below(a, b) && heights[i] >= heights[j] {
					t.Errorf("%v: heights %v do not rise from %d to %d", labels, heights, i, j)
				}
			}
		}
	}
}

// reached is the pairs of places with a way of one or more pairs of Covers between them.
func reached(labels []api.Label) map[[2]int]bool {
	next := map[int][]int{}
	for _, p := range label.Covers(labels) {
		next[p[0]] = append(next[p[0]], p[1])
	}
	reach := map[[2]int]bool{}
	var walk func(from, at int)
	walk = func(from, at int) {
		for _, j := range next[at] {
			if p := [2]int{from, j}; !reach[p] {
				reach[p] = true
				walk(from, j)
			}
		}
	}
	for i := range labels {
		walk(i, i)
	}
	return reach
}
