package sum_test

import (
	"fmt"
	"math/rand"
	"slices"
	"testing"

	"cloister/sum"
)

// cuts is the bytes, cut at each place whose bit in which is 1.
func cuts(b []byte, which int) [][]byte {
	var pieces [][]byte
	from := 0
	for place := 1; place < len(b); place++ {
		if which>>(place-1)&1 == 1 {
			pieces = append(pieces, b[from:place])
			from = place
		}
	}
	return append(pieces, b[from:])
}

// summed is More of the pieces, and the Sum and Len of a stream to which they were written.
func summed(pieces [][]byte) (more, stream uint32, length int) {
	var s sum.Stream
	for _, piece := range pieces {
		more = sum.More(more, piece)
		s.Write(piece)
	}
	return more, s.Sum(), s.Len()
}

// samePieces holds both ways to sum pieces against the sum of the whole.
func samePieces(t *testing.T, pieces [][]byte, want uint32, length int) {
	t.Helper()
	more, stream, got := summed(pieces)
	same(t, fmt.Sprint("More of ", pieces), more, want)
	same(t, fmt.Sprint("a stream of ", pieces), stream, want)
	same(t, fmt.Sprint("Len of ", pieces), got, length)
}

// P3.4: every way to cut bytes, without and with empty pieces between.
func TestEveryCut(t *testing.T) {
	for _, text := range []string{"", "a", "\x00\x00", "abcdefghij", "\xff\x00\xff\x00\x80\x01\x7f\xfe\x10\x08"} {
		b := []byte(text)
		want := sum.Of(b)
		for which := range 1 << max(len(b)-1, 0) {
			pieces := cuts(b, which)
			samePieces(t, pieces, want, len(b))
			var gaps [][]byte
			for _, piece := range pieces {
				gaps = append(gaps, nil, piece, []byte{})
			}
			samePieces(t, gaps, want, len(b))
		}
	}
}

// P3.4: many bytes, in some pieces.
func TestLongPieces(t *testing.T) {
	source := rand.New(rand.NewSource(35))
	for range 50 {
		b := randomBytes(source, source.Intn(2000))
		rest, pieces := b, [][]byte(nil)
		for len(rest) > 0 {
			n := source.Intn(min(len(rest), 300) + 1)
			pieces = append(pieces, rest[:n])
			rest = rest[n:]
		}
		samePieces(t, pieces, sum.Of(b), len(b))
	}
}

// changed is the text with 32 bits from a place on put together with others by exclusive or.
func changed(text []byte, place int, by uint32) []byte {
	out := slices.Clone(text)
	for i := range 32 {
		if by>>i&1 == 1 {
			at := place + i
			out[at/8] ^= 1 << (at % 8)
		}
	}
	return out
}

// parts is what 32 bits may be changed by: one bit, two, many.
func parts(source *rand.Rand) []uint32 {
	all := []uint32{0xFFFFFFFF, 0xEDB88320, 0x80000001, 0xDB710641, 0x55555555}
	for i := range 32 {
		all = append(all, 1<<i, 1<<i|1, 1<<i|1<<31)
	}
	for range 30 {
		all = append(all, source.Uint32()|1)
	}
	return all
}

// P3.5: texts that part within 32 bits, at every place of the bits, have unlike sums.
func TestUnlike(t *testing.T) {
	source := rand.New(rand.NewSource(36))
	for _, n := range []int{4, 5, 9, 20} {
		text := randomBytes(source, n)
		was := sum.Of(text)
		for place := 0; place+32 <= n*8; place++ {
			for _, by := range parts(source) {
				if sum.Of(changed(text, place, by)) == was {
					t.Fatalf("%X has the sum of %X", changed(text, place, by), text)
				}
			}
		}
	}
}

// P3.5: shorter than 32 bits: all texts of one byte, and all of two, have unlike sums.
func TestUnlikeShort(t *testing.T) {
	seen := make(map[uint32]int)
	for n := range 1 << 16 {
		seen[sum.Of([]byte{byte(n >> 8), byte(n)})]++
	}
	same(t, "sums of two bytes", len(seen), 1<<16)
	clear(seen)
	for n := range 256 {
		seen[sum.Of([]byte{byte(n)})]++
	}
	same(t, "sums of one byte", len(seen), 256)
}

// P3.6: of three texts of one length.
func TestThree(t *testing.T) {
	source := rand.New(rand.NewSource(37))
	for n := range 60 {
		a, b, c := randomBytes(source, n), randomBytes(source, n), randomBytes(source, n)
		want := sum.Of(a) ^ sum.Of(b) ^ sum.Of(c)
		same(t, "three", sum.Of(xor(a, b, c)), want)
		same(t, "one of them thrice", sum.Of(xor(a, a, a)), sum.Of(a))
		same(t, "one of them twice", sum.Of(xor(a, b, b)), sum.Of(a))
		same(t, "one of nothing", sum.Of(xor(a, b, make([]byte, n))), sum.Of(a)^sum.Of(b)^sum.Of(make([]byte, n)))
	}
}
