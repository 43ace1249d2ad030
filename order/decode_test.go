package order_test

import (
	"fmt"
	"math"
	"math/rand"
	"strings"
	"testing"

	"cloister/api"
	"cloister/order"
)

// paperFirst is the item whose bytes a text begins with, and what is behind it: every form is tried, and held against P4.5's table.
func paperFirst(s string) (api.Item, string, bool) {
	tries := list(none(), truth(false), truth(true))
	if len(s) >= 9 {
		word := wordOf(s[1:9])
		tries = append(tries, whole(int64(word^1<<63)), float(ofBits(word^1<<63)), float(ofBits(^word)))
	}
	if len(s) >= 17 {
		first, second := wordOf(s[1:9]), wordOf(s[9:17])
		for _, re := range []uint64{first ^ 1<<63, ^first} {
			for _, im := range []uint64{second ^ 1<<63, ^second} {
				tries = append(tries, pair(ofBits(re), ofBits(im)))
			}
		}
	}
	for end := 1; end <= len(s); end++ {
		tries = append(tries, text(strings.ReplaceAll(s[1:end], "\x00\xff", "\x00")))
	}
	for _, it := range tries {
		if behind, begins := strings.CutPrefix(s, paperEncode(list(it))); begins {
			return paperClean(it), behind, true
		}
	}
	return api.Item{}, "", false
}

// wordOf is eight bytes as a number.
func wordOf(s string) (word uint64) {
	for i := range 8 {
		word = word*256 + uint64(s[i])
	}
	return word
}

// paperDecode is P4.6.
func paperDecode(s string) ([]api.Item, api.Errno) {
	var items []api.Item
	for s != "" {
		it, behind, is := paperFirst(s)
		if !is || len(items) == 64 {
			return nil, api.ErrItems
		}
		items, s = append(items, it), behind
	}
	return items, api.OK
}

// sameDecode holds Decode of a text against the words.
func sameDecode(t *testing.T, s string) {
	t.Helper()
	got, code := order.Decode(s)
	want, wantCode := paperDecode(s)
	what := fmt.Sprintf("Decode of %.200X", s)
	same(t, what, code, wantCode)
	same(t, what, toldAll(got), toldAll(want))
}

// notItems holds Decode of a text against ErrItems.
func notItems(t *testing.T, s string) {
	t.Helper()
	got, code := order.Decode(s)
	same(t, fmt.Sprintf("Decode of %X", s), code, api.ErrItems)
	same(t, fmt.Sprintf("items beside an error, of %X", s), len(got), 0)
}

// P4.6: what Encode answers, and each beginning of it.
func TestDecodeBeginnings(t *testing.T) {
	for _, it := range goodItems() {
		s := encoded(t, list(it))
		got, code := order.Decode(s)
		same(t, "Decode of what was encoded", code, api.OK)
		same(t, "Decode of what was encoded", toldAll(got), told(paperClean(it)))
		for n := 1; n < len(s); n++ {
			notItems(t, s[:n])
			notItems(t, "\x01"+s[:n])
		}
		sameDecode(t, s+"\x01")
		sameDecode(t, s+"\x00")
		sameDecode(t, s[1:])
	}
	sameDecode(t, "")
}

// P4.6: a byte changed, to each other one.
func TestDecodeByteChanged(t *testing.T) {
	for _, it := range list(none(), truth(true), whole(-1), whole(258), float(1), float(minus), float(noNumbers()[0]), pair(minus, noNumbers()[0]), pair(-1, 2), text(""), text("a\x00b"), text("\x00\x00"), text("\xff")) {
		s := encoded(t, list(none(), it, truth(false)))
		for place := range len(s) {
			for b := range 256 {
				sameDecode(t, s[:place]+string([]byte{byte(b)})+s[place+1:])
			}
		}
	}
}

// P4.6: all texts of up to two bytes, and those of three that begin with a Kind or near it.
func TestDecodeShort(t *testing.T) {
	for a := range 256 {
		sameDecode(t, string([]byte{byte(a)}))
		for b := range 256 {
			sameDecode(t, string([]byte{byte(a), byte(b)}))
			for c := range 256 {
				if a <= 7 && (b < 4 || b > 253) {
					sameDecode(t, string([]byte{byte(a), byte(b), byte(c)}))
				}
			}
		}
	}
}

// P4.6: forms that are not clean, in each part of a number.
func TestDecodeNotClean(t *testing.T) {
	one, nought := paperFloat(1), paperFloat(0)
	forms := []string{"\x7f\xff\xff\xff\xff\xff\xff\xff"} // the nought with a sign
	for _, x := range noNumbers()[1:] {
		plain := octets(fmt.Sprintf("%064b", bitsTurned(x)))
		forms = append(forms, plain)
	}
	forms = append(forms, "\xff\xff\xff\xff\xff\xff\xff\xff", "\x00\x00\x00\x00\x00\x00\x00\x00", "\xff\xf0\x00\x00\x00\x00\x00\x01", "\x00\x0f\xff\xff\xff\xff\xff\xfe")
	for _, form := range forms {
		notItems(t, "\x04"+form)
		notItems(t, "\x05"+form+one)
		notItems(t, "\x05"+one+form)
		notItems(t, "\x05"+nought+form)
		notItems(t, "\x05"+form+form)
		notItems(t, "\x01\x04"+form+"\x01")
	}
}

// P4.6: numbers of every kind of bits, clean or not.
func TestDecodeNumbers(t *testing.T) {
	source := rand.New(rand.NewSource(46))
	for bit := range 64 {
		for _, word := range []uint64{1 << bit, ^uint64(1 << bit), 1<<bit - 1, ^uint64(1<<bit - 1), source.Uint64(), 0x7FF<<52 | source.Uint64()>>bit, 0xFFF<<52 | source.Uint64()>>bit} {
			s := octets(fmt.Sprintf("%064b", word))
			sameDecode(t, "\x03"+s)
			sameDecode(t, "\x04"+s)
			sameDecode(t, "\x05"+s+paperFloat(3))
			sameDecode(t, "\x05"+paperFloat(3)+s)
		}
	}
}

// P4.6: as many items as a list may have, and more.
func TestDecodeMany(t *testing.T) {
	for _, it := range list(none(), truth(false), whole(5), float(-2), pair(1, 2), text("a")) {
		one := encoded(t, list(it))
		for _, n := range []int{1, 63, 64} {
			got, code := order.Decode(strings.Repeat(one, n))
			same(t, "so many items", code, api.OK)
			same(t, "so many items", toldAll(got), toldAll(times(n, it)))
		}
		notItems(t, strings.Repeat(one, 65))
		notItems(t, strings.Repeat(one, 64)+"\x00")
		notItems(t, strings.Repeat(one, 200))
	}
}

// P4.6: bytes out of chance, most of them near what items have.
func TestDecodeRandom(t *testing.T) {
	source := rand.New(rand.NewSource(47))
	for range 20000 {
		sameDecode(t, randomText(source, 12))
	}
	for range 2000 {
		s := []byte(encoded(t, randomItems(source, 4)))
		for range source.Intn(3) {
			if len(s) > 0 {
				s[source.Intn(len(s))] = (randomText(source, 1) + "\x00")[0]
			}
		}
		sameDecode(t, string(s))
	}
}

// bitsTurned is the bits of a number as it is, turned as P4.5 turns those of a clean one.
func bitsTurned(x float64) uint64 {
	word := math.Float64bits(x)
	if word>>63 == 0 {
		return word + 1<<63
	}
	return ^word
}
