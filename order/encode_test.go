package order_test

import (
	"fmt"
	"math/rand"
	"slices"
	"strings"
	"testing"

	"cloister/api"
	"cloister/order"
)

// refused holds Encode of items against an error with an empty text beside it.
func refused(t *testing.T, what string, items []api.Item, want api.Errno) {
	t.Helper()
	got, code := order.Encode(items)
	same(t, what, code, want)
	sameText(t, what, got, "")
}

// P4.5: each Kind, byte by byte.
func TestEncodeOne(t *testing.T) {
	for _, it := range goodItems() {
		sameText(t, "Encode of "+told(it), encoded(t, list(it)), paperEncode(list(it)))
	}
	sameText(t, "no items", encoded(t, nil), "")
	sameText(t, "no items", encoded(t, []api.Item{}), "")
}

// P4.5: each single bit of numbers.
func TestEncodeBits(t *testing.T) {
	for bit := range 64 {
		for _, word := range []uint64{1 << bit, ^uint64(1 << bit), 1<<bit - 1} {
			sameText(t, "an Int", encoded(t, list(whole(int64(word)))), "\x03"+paperInt(int64(word)))
			x := ofBits(word)
			sameText(t, "a Float", encoded(t, list(float(x))), "\x04"+paperFloat(x))
			sameText(t, "a Complex", encoded(t, list(pair(x, 2))), "\x05"+paperFloat(x)+paperFloat(2))
			sameText(t, "a Complex", encoded(t, list(pair(-2, x))), "\x05"+paperFloat(-2)+paperFloat(x))
		}
	}
}

// P4.5: each byte in a text, bytes 0 and 255 many times.
func TestEncodeTexts(t *testing.T) {
	for b := range 256 {
		one := string([]byte{byte(b)})
		for _, s := range []string{one, one + one, "x" + one, one + "x", "\x00" + one, one + "\x00", "\xff" + one, one + "\xff"} {
			sameText(t, fmt.Sprintf("a text %X", s), encoded(t, list(text(s))), paperEncode(list(text(s))))
		}
	}
	for _, n := range []int{100, 5000} {
		sameText(t, "noughts", encoded(t, list(text(strings.Repeat("\x00", n)))), "\x06"+strings.Repeat("\x00\xff", n)+"\x00\x01")
		sameText(t, "bytes 255", encoded(t, list(text(strings.Repeat("\xff", n)))), "\x06"+strings.Repeat("\xff", n)+"\x00\x01")
	}
}

// P4.5: items one behind the other.
func TestEncodeLists(t *testing.T) {
	source := rand.New(rand.NewSource(45))
	for range 500 {
		items := randomItems(source, 8)
		sameText(t, "Encode of "+toldAll(items), encoded(t, items), paperEncode(items))
	}
}

// P4.5: 64 items, and more.
func TestEncodeMany(t *testing.T) {
	for _, it := range list(none(), truth(true), whole(-1), float(1), pair(1, -1), text("a\x00")) {
		full := times(api.MaxItems, it)
		sameText(t, "64 items", encoded(t, full), paperEncode(full))
		sameText(t, "63 items", encoded(t, full[1:]), paperEncode(full[1:]))
		refused(t, "65 items", append(full, it), api.ErrLarge)
		refused(t, "100000 items", times(100000, it), api.ErrLarge)
	}
}

// P4.5: an item that may not be at each place; too many come first.
func TestEncodeBad(t *testing.T) {
	for _, bad := range badItems() {
		refused(t, "one item "+told(bad), list(bad), api.ErrItem)
	}
	for n := 1; n <= api.MaxItems; n += 9 {
		for place := range n {
			for _, bad := range list(api.Item{}, api.Item{Kind: 7}, api.Item{Kind: 3, Text: "a"}, api.Item{Kind: 1, Float: noNumbers()[3]}) {
				items := times(n, text("a"))
				items[place] = bad
				refused(t, "an item at a place", items, api.ErrItem)
				refused(t, "too many", slices.Concat(items, times(65, none())), api.ErrLarge)
			}
		}
	}
	refused(t, "65 zero items", make([]api.Item, 65), api.ErrLarge)
}
