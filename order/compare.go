package order

import (
	"cmp"
	"math"
	"slices"

	"cloister/api"
)

// Compare puts two items in order.
func Compare(a, b api.Item) int {
	if a.Kind != b.Kind || !mayBe(a) || !mayBe(b) {
		return cmp.Compare(a.Kind, b.Kind)
	}
	switch a.Kind {
	case api.ItemBool:
		return compareBools(a.Bool, b.Bool)
	case api.ItemInt:
		return cmp.Compare(a.Int, b.Int)
	case api.ItemFloat:
		return compareNumbers(a.Float, b.Float)
	case api.ItemComplex:
		return cmp.Or(
			compareNumbers(real(a.Complex), real(b.Complex)),
			compareNumbers(imag(a.Complex), imag(b.Complex)))
	case api.ItemText:
		return cmp.Compare(a.Text, b.Text)
	}
	return 0 // both are without a value
}

// CompareAll puts two lists of items in order.
func CompareAll(a, b []api.Item) int {
	return slices.CompareFunc(a, b, Compare)
}

// compareBools has false below true.
func compareBools(a, b bool) int {
	switch {
	case a == b:
		return 0
	case b:
		return -1
	}
	return 1
}

// compareNumbers has what is no number above every number. (The library's own comparison has it below.)
func compareNumbers(a, b float64) int {
	if math.IsNaN(a) || math.IsNaN(b) {
		return compareBools(math.IsNaN(a), math.IsNaN(b))
	}
	return cmp.Compare(a, b)
}
