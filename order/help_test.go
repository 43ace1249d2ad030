package order_test

import (
	"fmt"
	"math"
	"math/rand"
	"strings"
	"testing"

	"cloister/api"
	"cloister/order"
)

func none() api.Item                { return api.Item{Kind: api.ItemNone} }
func truth(x bool) api.Item         { return api.Item{Kind: api.ItemBool, Bool: x} }
func whole(x int64) api.Item        { return api.Item{Kind: api.ItemInt, Int: x} }
func float(x float64) api.Item      { return api.Item{Kind: api.ItemFloat, Float: x} }
func pair(re, im float64) api.Item  { return api.Item{Kind: api.ItemComplex, Complex: complex(re, im)} }
func text(x string) api.Item        { return api.Item{Kind: api.ItemText, Text: x} }
func list(x ...api.Item) []api.Item { return x }
func ofBits(bits uint64) float64    { return math.Float64frombits(bits) }
func times(n int, it api.Item) (all []api.Item) {
	for range n {
		all = append(all, it)
	}
	return all
}

// minus is the nought with a sign.
var minus = math.Copysign(0, -1)

// noNumbers is floating-point numbers that are no number: quiet and signalling ones, with a sign and without, the one NaN among them.
func noNumbers() []float64 {
	return []float64{ofBits(0x7FF8000000000001), ofBits(0x7FF8000000000000), ofBits(0xFFF8000000000001), ofBits(0x7FF0000000000001),
		ofBits(0xFFF0000000000007), ofBits(0x7FFFFFFFFFFFFFFF), ofBits(0xFFFFFFFFFFFFFFFF), ofBits(0x7FF8000000000002)}
}

// numbers is floating-point numbers as they rise: the infinite ones, the greatest, those around 1 and around nought, the noughts side by side.
func numbers() []float64 {
	return []float64{math.Inf(-1), -math.MaxFloat64, -1e300, -2, math.Nextafter(-1, -2), -1, math.Nextafter(-1, 0), -0x1p-1022, -math.SmallestNonzeroFloat64,
		minus, 0, math.SmallestNonzeroFloat64, 2 * math.SmallestNonzeroFloat64, 0x1p-1022, math.Nextafter(1, 0), 1, math.Nextafter(1, 2), 2, 258, 1e300, math.MaxFloat64, math.Inf(1)}
}

// wholes is numbers for Int as they rise.
func wholes() []int64 {
	return []int64{math.MinInt64, math.MinInt64 + 1, -1 << 32, -257, -256, -255, -2, -1, 0, 1, 2, 127, 128, 255, 256, 258, 1 << 32, 1<<62 + 5, math.MaxInt64 - 1, math.MaxInt64}
}

// texts is texts as they rise.
func texts() []string {
	return []string{"", "\x00", "\x00\x00", "\x00\x00\x01", "\x00\x01", "\x00\x02", "\x00\xfe", "\x00\xff", "\x00\xff\x00", "\x01", "\x01\x00", "\x01\x01", "a", "a\x00", "a\x00\x00", "a\x00\x01", "a\x00b", "a\x00\xff", "a\x01", "aa", "ab", "b", "\u00e9", "\xfe", "\xfe\xff", "\xff", "\xff\x00", "\xff\x00\xff", "\xff\x01", "\xff\xff"}
}

// goodItems is items of every Kind that may be, many of them not clean.
func goodItems() []api.Item {
	all := list(none(), truth(false), truth(true), api.Item{Kind: api.ItemNone, Float: minus, Complex: complex(minus, minus)})
	for _, x := range wholes() {
		all = append(all, whole(x))
	}
	all = append(all, api.Item{Kind: api.ItemInt, Int: 3, Float: minus, Complex: complex(0, minus)})
	for _, x := range append(numbers(), noNumbers()...) {
		all = append(all, float(x), pair(x, 1), pair(1, x), pair(x, x))
	}
	for _, x := range []float64{minus, 0, math.Inf(-1), ofBits(0xFFF0000000000007)} {
		all = append(all, pair(x, minus), pair(x, 0), pair(x, ofBits(0x7FF0000000000001)), pair(x, -1))
	}
	for _, x := range texts() {
		all = append(all, text(x))
	}
	return append(all, api.Item{Kind: api.ItemText, Text: "a", Float: minus}, api.Item{Kind: api.ItemBool, Complex: complex(minus, 0)})
}

// strangeKinds is Kinds that are none, those among them whose last byte is one.
func strangeKinds() []int {
	return []int{0, -1, -6, 7, 8, 255, 256, 257, 258, 259, 262, 1<<32 + 3, math.MinInt, math.MinInt + 3, math.MaxInt}
}

// filled is an item of a Kind with one further field set to each of some things that are not zero, of the fields that the Kind does not name.
func filled(it api.Item) (all []api.Item) {
	add := func(named int, change func(*api.Item)) {
		if named == it.Kind {
			return
		}
		other := it
		change(&other)
		all = append(all, other)
	}
	add(api.ItemBool, func(x *api.Item) { x.Bool = true })
	for _, n := range []int64{1, -1, 256, math.MinInt64} {
		add(api.ItemInt, func(x *api.Item) { x.Int = n })
	}
	for _, f := range append(noNumbers(), 1, -1, math.Inf(1), math.SmallestNonzeroFloat64, -math.SmallestNonzeroFloat64) {
		add(api.ItemFloat, func(x *api.Item) { x.Float = f })
		add(api.ItemComplex, func(x *api.Item) { x.Complex = complex(f, 0) })
		add(api.ItemComplex, func(x *api.Item) { x.Complex = complex(minus, f) })
	}
	for _, s := range []string{"a", "\x00", "\xff"} {
		add(api.ItemText, func(x *api.Item) { x.Text = s })
	}
	return all
}

// badItems is items that may not be.
func badItems() (all []api.Item) {
	for _, kind := range strangeKinds() {
		all = append(all, api.Item{Kind: kind}, api.Item{Kind: kind, Int: 5}, api.Item{Kind: kind, Float: ofBits(0xFFF0000000000007), Complex: complex(minus, 3), Text: "a", Bool: true})
	}
	for _, it := range list(none(), truth(true), truth(false), whole(0), whole(7), float(0), float(2), float(math.NaN()), pair(0, 0), pair(minus, 1), text(""), text("b")) {
		all = append(all, filled(it)...)
	}
	return all
}

// paperMay is the chapter's words of which items may be, field by field.
func paperMay(it api.Item) bool {
	return it.Kind >= 1 && it.Kind <= 6 &&
		(it.Kind == 2 || !it.Bool) &&
		(it.Kind == 3 || it.Int == 0) &&
		(it.Kind == 4 || it.Float == 0) &&
		(it.Kind == 5 || real(it.Complex) == 0 && imag(it.Complex) == 0) &&
		(it.Kind == 6 || it.Text == "")
}

// paperNumber is the bits of a clean number.
func paperNumber(x float64) uint64 {
	switch {
	case x != x:
		return 0x7FF8000000000001
	case x == 0:
		return 0
	}
	return math.Float64bits(x)
}

// paperClean is an item that may be, cleaned, as the chapter says it.
func paperClean(it api.Item) api.Item {
	clean := api.Item{Kind: it.Kind}
	switch it.Kind {
	case 2:
		clean.Bool = it.Bool
	case 3:
		clean.Int = it.Int
	case 4:
		clean.Float = ofBits(paperNumber(it.Float))
	case 5:
		clean.Complex = complex(ofBits(paperNumber(real(it.Complex))), ofBits(paperNumber(imag(it.Complex))))
	case 6:
		clean.Text = it.Text
	}
	return clean
}

// octets is the bytes of 64 bits that are written as signs 0 and 1.
func octets(bits string) string {
	var out []byte
	for i, sign := range bits {
		if i%8 == 0 {
			out = append(out, 0)
		}
		out[i/8] = out[i/8]<<1 | byte(sign-'0')
	}
	return string(out)
}

// turned is signs 0 and 1, each the other one.
func turned(bits string) string {
	return strings.NewReplacer("0", "1", "1", "0").Replace(bits)
}

// paperInt is the bytes of an Int, bit by bit.
func paperInt(n int64) string {
	bits := fmt.Sprintf("%064b", uint64(n))
	return octets(turned(bits[:1]) + bits[1:])
}

// paperFloat is the bytes of a Float, bit by bit.
func paperFloat(x float64) string {
	bits := fmt.Sprintf("%064b", paperNumber(x))
	if bits[0] == '0' {
		return octets("1" + bits[1:])
	}
	return octets(turned(bits))
}

// paperEncode is P4.5's table, of items that may be.
func paperEncode(items []api.Item) string {
	var out strings.Builder
	for _, it := range items {
		out.WriteString(string([]byte{byte(it.Kind)}))
		switch it.Kind {
		case 2:
			out.WriteString(map[bool]string{true: "\x01", false: "\x00"}[it.Bool])
		case 3:
			out.WriteString(paperInt(it.Int))
		case 4:
			out.WriteString(paperFloat(it.Float))
		case 5:
			out.WriteString(paperFloat(real(it.Complex)) + paperFloat(imag(it.Complex)))
		case 6:
			out.WriteString(strings.Join(strings.Split(it.Text, "\x00"), "\x00\xff") + "\x00\x01")
		}
	}
	return out.String()
}

// paperNumberOrder is the chapter's order of floating-point numbers.
func paperNumberOrder(a, b float64) int {
	aNone, bNone := a != a, b != b
	switch {
	case aNone && bNone:
		return 0
	case aNone:
		return 1
	case bNone || a < b:
		return -1
	case a > b:
		return 1
	}
	return 0
}

// paperTextOrder is the order of texts byte by byte.
func paperTextOrder(a, b string) int {
	for i := 0; i < len(a) && i < len(b); i++ {
		if a[i] != b[i] {
			return paperIntOrder(int64(a[i]), int64(b[i]))
		}
	}
	return paperIntOrder(int64(len(a)), int64(len(b)))
}

// paperIntOrder is the order of numbers.
func paperIntOrder(a, b int64) int {
	if a < b {
		return -1
	}
	if a > b {
		return 1
	}
	return 0
}

// paperCompare is P4.3.
func paperCompare(a, b api.Item) int {
	if a.Kind != b.Kind || !paperMay(a) || !paperMay(b) {
		return paperIntOrder(int64(a.Kind), int64(b.Kind))
	}
	switch a.Kind {
	case 2:
		number := map[bool]int64{true: 1}
		return paperIntOrder(number[a.Bool], number[b.Bool])
	case 3:
		return paperIntOrder(a.Int, b.Int)
	case 4:
		return paperNumberOrder(a.Float, b.Float)
	case 5:
		if first := paperNumberOrder(real(a.Complex), real(b.Complex)); first != 0 {
			return first
		}
		return paperNumberOrder(imag(a.Complex), imag(b.Complex))
	case 6:
		return paperTextOrder(a.Text, b.Text)
	}
	return 0
}

// paperCompareAll is P4.4.
func paperCompareAll(a, b []api.Item) int {
	for i := 0; i < len(a) && i < len(b); i++ {
		if told := paperCompare(a[i], b[i]); told != 0 {
			return told
		}
	}
	return paperIntOrder(int64(len(a)), int64(len(b)))
}

// told is an item, every bit of it.
func told(it api.Item) string {
	return fmt.Sprintf("{%d %v %d %016X %016X %016X %q}", it.Kind, it.Bool, it.Int,
		math.Float64bits(it.Float), math.Float64bits(real(it.Complex)), math.Float64bits(imag(it.Complex)), it.Text)
}

// toldAll is items, every bit of them.
func toldAll(items []api.Item) string {
	var out strings.Builder
	for _, it := range items {
		out.WriteString(told(it))
	}
	return out.String()
}

// same holds an answer against what is wanted.
func same[A comparable](t *testing.T, what string, got, want A) {
	t.Helper()
	if got != want {
		t.Errorf("%.300s: got %.300s, want %.300s", what, fmt.Sprint(got), fmt.Sprint(want))
	}
}

// sameText holds the bytes of a text against those that are wanted.
func sameText(t *testing.T, what, got, want string) {
	t.Helper()
	if got != want {
		t.Errorf("%.300s: got %.300X, want %.300X", what, got, want)
	}
}

// encoded is what Encode answers of items that it must take.
func encoded(t *testing.T, items []api.Item) string {
	t.Helper()
	s, code := order.Encode(items)
	same(t, "Encode of "+toldAll(items), code, api.OK)
	return s
}

// randomItem is an item that may be, out of the given ones, or with chance's bits.
func randomItem(source *rand.Rand) api.Item {
	good := goodItems()
	switch source.Intn(8) {
	case 0:
		return whole(int64(source.Uint64()))
	case 1:
		return float(ofBits(source.Uint64()))
	case 2:
		return pair(ofBits(source.Uint64()), ofBits(source.Uint64()))
	case 3:
		return text(randomText(source, 6))
	}
	return good[source.Intn(len(good))]
}

// randomText is up to so many bytes, most of them such that matter here.
func randomText(source *rand.Rand, most int) string {
	b := make([]byte, source.Intn(most+1))
	for i := range b {
		b[i] = "\x00\x00\x01\x02\x03\x04\x05\x06\x07\xff\xff\xfea\x80\x7f"[source.Intn(15)]
		if source.Intn(8) == 0 {
			b[i] = byte(source.Intn(256))
		}
	}
	return string(b)
}

// randomItems is up to so many items that may be.
func randomItems(source *rand.Rand, most int) []api.Item {
	items := make([]api.Item, source.Intn(most+1))
	for i := range items {
		items[i] = randomItem(source)
	}
	return items
}
