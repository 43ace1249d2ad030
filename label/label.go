// Package label is layer 1: see shared/doc/01-label.md.
package label

import (
	"slices"

	"cloister/api"
)

// Leq tells whether a is at or below b.
func Leq(a, b api.Label) bool { return a&^b == 0 }

// Join is the least label that both are at or below.
func Join(a, b api.Label) api.Label { return a | b }

// Meet is the greatest label that is at or below both.
func Meet(a, b api.Label) api.Label { return a & b }

// Place tells the least place at which a label stands.
func Place(labels []api.Label, l api.Label) (int, bool) {
	i := slices.Index(labels, l)
	if i < 0 {
		return 0, false
	}
	return i, true
}

// Down tells the places of the labels at or below one.
func Down(labels []api.Label, l api.Label) []int {
	return places(labels, func(x api.Label) bool { return Leq(x, l) })
}

// Up tells the places of the labels at or above one.
func Up(labels []api.Label, l api.Label) []int {
	return places(labels, func(x api.Label) bool { return Leq(l, x) })
}

// places tells, rising, at which places labels of a kind stand.
func places(labels []api.Label, fits func(api.Label) bool) []int {
	var found []int
	for i, x := range labels {
		if fits(x) {
			found = append(found, i)
		}
	}
	return found
}
