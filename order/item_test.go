package order_test

import (
	"math"
	"testing"

	"cloister/api"
	"cloister/order"
)

// P4.1: items that may be, of every Kind.
func TestCheckGood(t *testing.T) {
	for _, it := range goodItems() {
		same(t, "Check of "+told(it), order.Check(it), api.OK)
		same(t, "the words of "+told(it), paperMay(it), true)
	}
}

// P4.1: items of no Kind, and with a field that the Kind does not name.
func TestCheckBad(t *testing.T) {
	for _, it := range badItems() {
		same(t, "Check of "+told(it), order.Check(it), api.ErrItem)
		same(t, "the words of "+told(it), paperMay(it), false)
	}
}

// P4.1: every Kind near the six, with nothing else.
func TestCheckKinds(t *testing.T) {
	for kind := -300; kind <= 300; kind++ {
		want := api.ErrItem
		if kind >= 1 && kind <= 6 {
			want = api.OK
		}
		same(t, "Check of a Kind alone", order.Check(api.Item{Kind: kind}), want)
	}
}

// P4.1: a nought with a sign is zero in every field, what is no number is not; where the Kind names the field, both may be.
func TestCheckNoughts(t *testing.T) {
	for kind := 1; kind <= 6; kind++ {
		for _, it := range list(api.Item{Float: minus}, api.Item{Complex: complex(minus, 0)}, api.Item{Complex: complex(0, minus)}, api.Item{Float: minus, Complex: complex(minus, minus)}) {
			it.Kind = kind
			same(t, "a nought with a sign: "+told(it), order.Check(it), api.OK)
		}
		for _, nan := range noNumbers() {
			for _, it := range list(api.Item{Float: nan}, api.Item{Complex: complex(nan, 0)}, api.Item{Complex: complex(0, nan)}) {
				it.Kind = kind
				want := api.ErrItem
				if kind == api.ItemFloat && it.Complex == 0 || kind == api.ItemComplex && it.Float == 0 {
					want = api.OK
				}
				same(t, "no number: "+told(it), order.Check(it), want)
			}
		}
	}
}

// P4.2: of items that may be, bit by bit.
func TestCleanGood(t *testing.T) {
	for _, it := range goodItems() {
		clean := order.Clean(it)
		same(t, "Clean of "+told(it), told(clean), told(paperClean(it)))
		same(t, "Clean again of "+told(it), told(order.Clean(clean)), told(clean))
		same(t, "Check of Clean of "+told(it), order.Check(clean), api.OK)
		same(t, "Compare with Clean of "+told(it), order.Compare(it, clean), 0)
	}
}

// P4.2: items that may not be are answered as they are, each bit of them.
func TestCleanBad(t *testing.T) {
	for _, it := range badItems() {
		same(t, "Clean of what may not be", told(order.Clean(it)), told(it))
	}
	wild := api.Item{Kind: 3, Int: 4, Float: minus, Complex: complex(minus, ofBits(0x7FF0000000000003)), Text: "x"}
	same(t, "Clean of what may not be", told(order.Clean(wild)), told(wild))
}

// P4.2: each nought, each that is no number, and numbers near them, in each place of a number.
func TestCleanNumbers(t *testing.T) {
	for _, x := range append(numbers(), noNumbers()...) {
		want := paperNumber(x)
		same(t, "Float", math.Float64bits(order.Clean(float(x)).Float), want)
		for _, y := range append(numbers(), noNumbers()...) {
			both := order.Clean(pair(x, y)).Complex
			same(t, "the real part", math.Float64bits(real(both)), want)
			same(t, "the imaginary part", math.Float64bits(imag(both)), paperNumber(y))
		}
	}
}

// P4.2: what the Kind does not name has no sign behind Clean, whatever the Kind.
func TestCleanOtherFields(t *testing.T) {
	for kind := 1; kind <= 6; kind++ {
		it := api.Item{Kind: kind, Float: minus, Complex: complex(minus, minus)}
		same(t, "Clean of "+told(it), told(order.Clean(it)), told(api.Item{Kind: kind}))
	}
}
