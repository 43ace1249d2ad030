package codec_test

import (
	"bytes"
	"fmt"
	"math"
	"strings"
	"testing"

	"cloister/codec"
)

// heads is bytes that are there already.
func heads() [][]byte { return [][]byte{nil, {}, {7}, {0, 255, 128}, times(100, 9)} }

// putAt holds Put at one width against the document's words.
func putAt[T codec.Unsigned](t *testing.T, wide int) {
	t.Helper()
	for _, head := range heads() {
		for _, v := range wides() {
			want := append(bytes.Clone(head), highestFirst(v, wide)...)
			same(t, fmt.Sprintf("Put[%T](%v, %d)", T(0), head, T(v)), codec.Put(head, T(v)), want)
		}
	}
}

// P2.1: at each width, of kinds with names of their own, behind bytes that are there.
func TestPut(t *testing.T) {
	putAt[uint8](t, 1)
	putAt[uint16](t, 2)
	putAt[uint32](t, 4)
	putAt[uint64](t, 8)
	putAt[small](t, 1)
	putAt[middle](t, 2)
	putAt[large](t, 4)
	putAt[great](t, 8)
}

// P2.1, by hand.
func TestPutByHand(t *testing.T) {
	same(t, "uint8 200", codec.Put(nil, uint8(200)), list(200))
	same(t, "uint16", codec.Put(nil, uint16(0x0102)), list(1, 2))
	same(t, "uint32", codec.Put(list(9), uint32(0x01020304)), list(9, 1, 2, 3, 4))
	same(t, "uint64", codec.Put(nil, uint64(0xf1e2d3c4b5a69788)), list(0xf1, 0xe2, 0xd3, 0xc4, 0xb5, 0xa6, 0x97, 0x88))
	same(t, "the greatest", codec.Put(nil, uint64(math.MaxUint64)), times(8, 255))
	same(t, "none", codec.Put(nil, uint32(0)), times(4, 0))
	same(t, "a named one", codec.Put(list(1), middle(65535)), list(1, 255, 255))
}

// riseAt holds the order of bytes against that of numbers, at one width.
func riseAt[T codec.Unsigned](t *testing.T) {
	t.Helper()
	for _, a := range wides() {
		for _, b := range wides() {
			got := bytes.Compare(codec.Put(nil, T(a)), codec.Put(nil, T(b)))
			less, more := T(a) < T(b), T(a) > T(b)
			if (got < 0) != less || (got > 0) != more {
				t.Errorf("%T: %d and %d, their bytes compare as %d", T(0), T(a), T(b), got)
			}
		}
	}
}

// P2.12
func TestFixedWidthsRise(t *testing.T) {
	riseAt[uint8](t)
	riseAt[uint16](t)
	riseAt[uint32](t)
	riseAt[uint64](t)
	riseAt[large](t)
}

// P2.2: at each edge between two lengths, on both sides.
func TestPutInt(t *testing.T) {
	for _, head := range heads() {
		for _, n := range edges() {
			same(t, fmt.Sprintf("PutInt(%v, %d)", head, n), codec.PutInt(head, n), append(bytes.Clone(head), shortOf(n)...))
		}
	}
}

// P2.2: how long the form is at its edges, by hand.
func TestPutIntLengths(t *testing.T) {
	for long := 1; long <= 9; long++ {
		last := 1<<(7*long-1) - 1 // its fold is the greatest even one of so many groups
		same(t, fmt.Sprint("the length of ", last), len(codec.PutInt(nil, last)), long)
		same(t, fmt.Sprint("the length of ", last+1), len(codec.PutInt(nil, last+1)), long+1)
		same(t, fmt.Sprint("the length of ", -last-1), len(codec.PutInt(nil, -last-1)), long)
		same(t, fmt.Sprint("the length of ", -last-2), len(codec.PutInt(nil, -last-2)), long+1)
	}
	same(t, "the greatest int", codec.PutInt(list(3), math.MaxInt), append(append(list(3, 254), times(8, 255)...), 1))
	same(t, "the least int", codec.PutInt(nil, math.MinInt), times(9, 255, 1))
}

// P2.3: lengths around the edges of their short forms, behind bytes that are there.
func TestPutTextAndBytes(t *testing.T) {
	for _, head := range heads() {
		for _, long := range []int{0, 1, 2, 62, 63, 64, 65, 255, 4096, 8191, 8192, 70000} {
			text := strings.Repeat("a\x00\xff", long/3+1)[:long]
			want := append(append(bytes.Clone(head), shortOf(long)...), text...)
			same(t, fmt.Sprint("PutText of ", long), codec.PutText(head, text), want)
			same(t, fmt.Sprint("PutBytes of ", long), codec.PutBytes(head, []byte(text)), want)
		}
	}
	same(t, "63", codec.PutBytes(nil, times(63, 5))[:2], list(126, 5))
	same(t, "64", codec.PutText(list(1), strings.Repeat("b", 64))[:4], list(1, 128, 1, 98))
	same(t, "nothing", codec.PutText(list(8), ""), list(8, 0))
	same(t, "no bytes", codec.PutBytes(nil, nil), list(0))
}
