package order

import (
	"math"

	"cloister/api"
	"cloister/codec"
)

// sign is the first bit of a number.
const sign = 1 << 63

// What stands behind a byte 0 in the bytes of a text: the end is the lesser, so that a text is below those that go on.
const (
	textEnds   = 1
	textGoesOn = 255
)

// Encode writes items as a text that keeps their order.
func Encode(items []api.Item) (string, api.Errno) {
	if len(items) > api.MaxItems {
		return "", api.ErrLarge
	}
	var out []byte
	for _, it := range items {
		if !mayBe(it) {
			return "", api.ErrItem
		}
		out = appendItem(out, it)
	}
	return string(out), api.OK
}

// appendItem lays down an item that may be.
func appendItem(out []byte, it api.Item) []byte {
	out = append(out, byte(it.Kind))
	last := it.Float
	switch it.Kind {
	case api.ItemBool:
		return append(out, bit(it.Bool))
	case api.ItemInt:
		return appendWord(out, uint64(it.Int)^sign)
	case api.ItemComplex:
		out = appendWord(out, rising(real(it.Complex)))
		last = imag(it.Complex)
		fallthrough
	case api.ItemFloat:
		return appendWord(out, rising(last))
	case api.ItemText:
		return appendText(out, it.Text)
	}
	return out
}

// appendWord lays 64 bits down. (To put them onto out itself would copy all of it each time.)
func appendWord(out []byte, word uint64) []byte {
	return append(out, codec.Put(nil, word)...)
}

// appendText lays a text down so that its end is told from its bytes.
func appendText(out []byte, text string) []byte {
	for i := range len(text) {
		out = append(out, text[i])
		if text[i] == 0 {
			out = append(out, textGoesOn)
		}
	}
	return append(out, 0, textEnds)
}

// bit is a truth value as a byte.
func bit(is bool) byte {
	if is {
		return 1
	}
	return 0
}

// rising is the bits of a clean number, turned so that they rise with the numbers: of those below nought the greater bits are the lesser number's.
func rising(x float64) uint64 {
	word := math.Float64bits(cleanNumber(x))
	if word&sign == 0 {
		return word ^ sign
	}
	return ^word
}

// unrising is the number whose bits were turned to these, clean or not.
func unrising(word uint64) float64 {
	if word&sign != 0 {
		return math.Float64frombits(word ^ sign)
	}
	return math.Float64frombits(^word)
}
