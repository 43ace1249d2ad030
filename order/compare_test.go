package order_test

import (
	"math/rand"
	"slices"
	"testing"

	"cloister/api"
	"cloister/order"
)

// P4.3: every two of the items that may be, and of those that may not.
func TestCompareEveryTwo(t *testing.T) {
	some := append(goodItems(), badItems()...)
	for _, a := range some {
		for _, b := range some {
			if got, want := order.Compare(a, b), paperCompare(a, b); got != want {
				t.Fatalf("Compare(%s, %s): got %d, want %d", told(a), told(b), got, want)
			}
		}
	}
}

// rises tells Compare of all twos of a list of which each item is below the next one.
func rises(t *testing.T, items []api.Item) {
	t.Helper()
	for i, a := range items {
		for j, b := range items {
			same(t, "Compare of "+told(a)+told(b), order.Compare(a, b), paperIntOrder(int64(i), int64(j)))
		}
	}
}

// P4.3: each Kind by its values.
func TestCompareValues(t *testing.T) {
	rises(t, list(truth(false), truth(true)))
	var ints, words, floats []api.Item
	for _, x := range wholes() {
		ints = append(ints, whole(x))
	}
	rises(t, ints)
	for _, x := range texts() {
		words = append(words, text(x))
	}
	rises(t, words)
	for _, x := range numbers() {
		if x != 0 {
			floats = append(floats, float(x))
		}
	}
	rises(t, append(floats, float(noNumbers()[2])))
	rises(t, list(none(), truth(true), whole(1), float(-1), pair(-5, 0), text("")))
}

// P4.3: noughts are alike, and all that are no number, in each part of a number; the real part is looked at first.
func TestCompareAlike(t *testing.T) {
	for _, a := range noNumbers() {
		for _, b := range noNumbers() {
			same(t, "no numbers", order.Compare(float(a), float(b)), 0)
			same(t, "no numbers as real parts", order.Compare(pair(a, 1), pair(b, 1)), 0)
			same(t, "no numbers as real parts, below", order.Compare(pair(a, 1), pair(b, 2)), -1)
			same(t, "no numbers as imaginary parts", order.Compare(pair(1, a), pair(1, b)), 0)
		}
	}
	same(t, "noughts", order.Compare(float(minus), float(0)), 0)
	same(t, "noughts in pairs", order.Compare(pair(minus, 0), pair(0, minus)), 0)
	rises(t, list(pair(-1, 5), pair(minus, -3), pair(0, minus), pair(0, 1), pair(minus, noNumbers()[4]), pair(1, -7), pair(noNumbers()[3], -9), pair(noNumbers()[6], noNumbers()[6])))
	same(t, "none", order.Compare(none(), api.Item{Kind: api.ItemNone, Float: minus}), 0)
}

// P4.3: where one of the two may not be, the Kinds alone count.
func TestCompareBad(t *testing.T) {
	broken := api.Item{Kind: api.ItemInt, Int: 5, Text: "a"}
	for _, x := range wholes() {
		same(t, "broken first", order.Compare(broken, whole(x)), 0)
		same(t, "broken last", order.Compare(whole(x), broken), 0)
	}
	same(t, "both broken", order.Compare(broken, api.Item{Kind: api.ItemInt, Int: 9, Bool: true}), 0)
	same(t, "broken below", order.Compare(broken, float(-1)), -1)
	same(t, "broken above", order.Compare(broken, truth(true)), 1)
	kinds := strangeKinds()
	slices.Sort(kinds)
	for i, a := range kinds {
		for j, b := range kinds {
			same(t, "no Kinds", order.Compare(api.Item{Kind: a}, api.Item{Kind: b}), paperIntOrder(int64(i), int64(j)))
		}
	}
}

// P4.4: lists of unlike lengths, and where each place parts.
func TestCompareAllLengths(t *testing.T) {
	for n := range 80 {
		for m := range 80 {
			same(t, "alike items", order.CompareAll(times(n, whole(3)), times(m, whole(3))), paperIntOrder(int64(n), int64(m)))
		}
	}
	base := list(whole(1), text("b"), float(minus), none(), truth(false), pair(1, 1))
	for place := range base {
		for _, put := range goodItems() {
			other := slices.Clone(base)
			other[place] = put
			for cut := range len(base) + 1 {
				same(t, "a place changed", order.CompareAll(base, other[:cut]), paperCompareAll(base, other[:cut]))
				same(t, "a place changed", order.CompareAll(other[:cut], base), paperCompareAll(other[:cut], base))
			}
		}
	}
	same(t, "no lists", order.CompareAll(nil, []api.Item{}), 0)
	same(t, "no list", order.CompareAll(nil, list(none())), -1)
}

// P4.4: the first place that parts counts, also of items that may not be, and of lists longer than Encode takes.
func TestCompareAllRandom(t *testing.T) {
	source := rand.New(rand.NewSource(44))
	pool := append(list(whole(1), whole(2), text("a"), none(), float(minus), float(0), float(noNumbers()[1])), badItems()[:4]...)
	for range 5000 {
		a, b := make([]api.Item, source.Intn(5)), make([]api.Item, source.Intn(5))
		for i := range a {
			a[i] = pool[source.Intn(len(pool))]
		}
		for i := range b {
			b[i] = pool[source.Intn(len(pool))]
		}
		same(t, toldAll(a)+" and "+toldAll(b), order.CompareAll(a, b), paperCompareAll(a, b))
	}
	long := times(1000, none())
	same(t, "long lists", order.CompareAll(append(slices.Clone(long), whole(1)), append(slices.Clone(long), whole(2))), -1)
}

// P4.12: an order of the items that may be.
func TestCompareIsAnOrder(t *testing.T) {
	items := goodItems()
	told := make([][]int, len(items))
	for i, a := range items {
		told[i] = make([]int, len(items))
		for j, b := range items {
			told[i][j] = order.Compare(a, b)
		}
	}
	for i := range items {
		same(t, "an item is like itself", told[i][i], 0)
		for j := range items {
			if told[i][j] != -told[j][i] {
				t.Fatalf("both ways: %d and %d", told[i][j], told[j][i])
			}
			for k := range items {
				if told[i][j] <= 0 && told[j][k] <= 0 && told[i][k] != min(told[i][j], told[j][k]) {
					t.Fatalf("%d, %d, but %d", told[i][j], told[j][k], told[i][k])
				}
			}
		}
	}
}
