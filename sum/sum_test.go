package sum_test

import (
	"hash/crc32"
	"math/rand"
	"testing"

	"cloister/sum"
)

// The chapter's examples.
func TestExamples(t *testing.T) {
	digits := []byte("123456789")
	same(t, "Of of nothing", sum.Of(nil), 0)
	same(t, "Of of an empty list", sum.Of([]byte{}), 0)
	same(t, "Of of a 0", sum.Of([]byte{0}), 0xD202EF8D)
	same(t, "Of of the digits", sum.Of(digits), 0xCBF43926)
	same(t, "Of of a 1", sum.Of([]byte{1}), 0xA505DF1B)
	same(t, "Of of two 0s", sum.Of([]byte{0, 0}), 0x41D912FF)
	same(t, "More of 0", sum.More(0, digits), 0xCBF43926)
	same(t, "More of nothing", sum.More(0xCBF43926, nil), 0xCBF43926)
	same(t, "More of a sum", sum.More(sum.Of([]byte("1234")), []byte("56789")), 0xCBF43926)
	same(t, "More of a register of 0", sum.More(0xFFFFFFFF, []byte{0}), 0xFFFFFFFF)
	var s sum.Stream
	told(t, "a new stream", &s, 0, 0)
	s.Write([]byte("1234"))
	s.Write(nil)
	s.Write([]byte("56789"))
	told(t, "a stream", &s, 0xCBF43926, 9)
	s.Reset()
	told(t, "behind Reset", &s, 0, 0)
	s.Write([]byte{0})
	told(t, "behind a 0", &s, 0xD202EF8D, 1)
	var none *sum.Stream
	none.Write([]byte("1"))
	told(t, "a stream that is not there", none, 0, 0)
}

// P3.1: one byte of each value, bit by bit.
func TestOfOneByte(t *testing.T) {
	for value := range 256 {
		b := []byte{byte(value)}
		same(t, "Of of a byte", sum.Of(b), paperOf(b))
	}
}

// P3.1: two bytes: what the first left is met by the second.
func TestOfTwoBytes(t *testing.T) {
	for first := range 256 {
		for second := 0; second < 256; second += 5 {
			b := []byte{byte(first), byte(second)}
			same(t, "Of of two bytes", sum.Of(b), paperOf(b))
		}
	}
}

// P3.1: longer bytes.
func TestOfLonger(t *testing.T) {
	source := rand.New(rand.NewSource(31))
	for n := range 300 {
		b := randomBytes(source, n)
		same(t, "Of", sum.Of(b), paperOf(b))
		same(t, "the bits' own words", paperOf(b), crc32.ChecksumIEEE(b))
	}
	for _, n := range []int{4095, 65536, 1<<20 + 3} {
		b := randomBytes(source, n)
		same(t, "Of of many bytes", sum.Of(b), crc32.ChecksumIEEE(b))
	}
}

// P3.1: bytes of one value, and how many they are, show in the sum.
func TestOfOneValue(t *testing.T) {
	for _, value := range []byte{0, 1, 127, 128, 255} {
		var b []byte
		for range 64 {
			b = append(b, value)
			same(t, "Of of one value", sum.Of(b), paperOf(b))
		}
	}
}

// P3.2: More of any sum, also of none that is known.
func TestMore(t *testing.T) {
	source := rand.New(rand.NewSource(32))
	for _, begin := range sums() {
		same(t, "More of nothing", sum.More(begin, nil), begin)
		same(t, "More of an empty list", sum.More(begin, []byte{}), begin)
		for value := range 256 {
			b := []byte{byte(value)}
			same(t, "More of a byte", sum.More(begin, b), paperMore(begin, b))
		}
		for range 20 {
			b := randomBytes(source, source.Intn(40))
			same(t, "More", sum.More(begin, b), paperMore(begin, b))
		}
	}
	for range 2000 {
		begin, b := source.Uint32(), randomBytes(source, source.Intn(20))
		same(t, "More", sum.More(begin, b), paperMore(begin, b))
	}
}

// P3.2: behind some bytes' sum, More is the sum of all.
func TestMoreIsBehind(t *testing.T) {
	source := rand.New(rand.NewSource(33))
	for range 500 {
		front, back := randomBytes(source, source.Intn(50)), randomBytes(source, source.Intn(50))
		all := append(append([]byte{}, front...), back...)
		same(t, "More", sum.More(sum.Of(front), back), paperOf(all))
	}
}

// P3.1, P3.2: a call hangs on nothing that was asked before it.
func TestAskedAgain(t *testing.T) {
	b := []byte("asked again")
	first, behind := sum.Of(b), sum.More(77, b)
	for range 3 {
		sum.Of([]byte("something else"))
		sum.More(0xFFFFFFFF, []byte{1, 2, 3})
		same(t, "Of", sum.Of(b), first)
		same(t, "More", sum.More(77, b), behind)
	}
}
