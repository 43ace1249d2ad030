package frame_test

import (
	"fmt"
	"math/rand"
	"testing"

	"cloister/api"
	"cloister/frame"
)

// P9.2: of no byte.
func TestReadNothing(t *testing.T) {
	sameRead(t, "nothing", "", refused(api.ErrCut))
	payload, size, code := frame.Read(nil)
	same(t, "none: payload", len(payload), 0)
	same(t, "none: size", size, 0)
	same(t, "none: code", code, api.ErrCut)
}

// P9.2: any first byte but the mark, alone, with a few bytes, with a whole frame's, with a length that may not be.
func TestReadMark(t *testing.T) {
	whole := paperFrame("seven")
	for x := range 256 {
		first := string([]byte{byte(x)})
		want := api.ErrMark
		if x == 197 {
			want = api.ErrCut
		}
		for _, behind := range []string{"", "\x00", "\x00\x00", "\x00\x00\x00"} {
			sameRead(t, "a first byte", first+behind, refused(want))
		}
		sameRead(t, "a first byte, then a beginning", first+whole[1:8], refused(want))
		if x != 197 {
			sameRead(t, "a first byte, then the rest of a frame", first+whole[1:], refused(api.ErrMark))
			sameRead(t, "a first byte, then a length that may not be", first+"\xff\xff\xff\xff", refused(api.ErrMark))
			sameRead(t, "a first byte, then a whole frame", first+whole, refused(api.ErrMark))
		}
	}
}

// P9.2: of 1 to 4 bytes, whatever they say so far.
func TestReadShort(t *testing.T) {
	for _, more := range []string{"\x00\x00\x00", "\xff\xff\xff", "\x00\x01\x00", "\x00\x02\x00", "\xc5\xc5\xc5"} {
		for n := range 4 {
			sameRead(t, "few bytes", "\xc5"+more[:n], refused(api.ErrCut))
		}
	}
}

// head is a mark and a length.
func head(length uint32) string {
	return string([]byte{197, byte(length >> 24), byte(length >> 16), byte(length >> 8), byte(length)})
}

// P9.2: lengths above the limit, with no byte behind and with many.
func TestReadLarge(t *testing.T) {
	for _, length := range []uint32{65537, 65538, 65792, 131072, 1 << 24, 1<<24 + 1, 1<<31 - 1, 1 << 31, 1<<31 + 5, 1<<32 - 9, 1<<32 - 1} {
		what := fmt.Sprint("the length ", length)
		sameRead(t, what, head(length), refused(api.ErrLarge))
		sameRead(t, what, head(length)+"1234", refused(api.ErrLarge))
		sameRead(t, what, head(length)+great(70000), refused(api.ErrLarge))
	}
	long := paperFrame(great(65537))
	sameRead(t, "a frame that would be right but for its length", long, refused(api.ErrLarge))
	sameRead(t, "its beginning", long[:65541], refused(api.ErrLarge))
}

// P9.2: the limit itself is a length that may be.
func TestReadGreatest(t *testing.T) {
	sameRead(t, "the limit, with nothing behind", head(65536), refused(api.ErrCut))
	sameRead(t, "one less, with nothing behind", head(65535), refused(api.ErrCut))
	for _, n := range []int{65535, 65536} {
		whole := paperFrame(great(n))
		sameRead(t, "whole", whole, taken(great(n)))
		sameRead(t, "whole, with more behind", whole+whole, taken(great(n)))
		sameRead(t, "a byte short", whole[:n+8], refused(api.ErrCut))
		sameRead(t, "another sum", turned(whole, n+8, 1), refused(api.ErrSum))
	}
}

// P9.2: fewer bytes than the frame has, though the length may be.
func TestReadCut(t *testing.T) {
	for _, length := range []uint32{0, 1, 2, 255, 256, 65535, 65536} {
		for _, n := range []int{0, 1, 3} {
			sameRead(t, fmt.Sprint("the length ", length, " and ", n, " bytes"), head(length)+great(n), refused(api.ErrCut))
		}
		sameRead(t, fmt.Sprint("the length ", length, ", a byte short"), head(length)+great(int(length)+3), refused(api.ErrCut))
	}
}

// P9.2: another sum: of no bytes, of the payload alone, of what stands ahead turned round, its bytes the lowest first.
func TestReadSum(t *testing.T) {
	for _, behind := range []string{"", "x", row("next")} {
		sameRead(t, "noughts", head(0)+"\x00\x00\x00\x00"+behind, refused(api.ErrSum))
		sameRead(t, "the payload's own", head(1)+"\x07\x4f\xd4\x8f\x4d"+behind, refused(api.ErrSum))
		sameRead(t, "the lowest byte first", head(1)+"\x07\x46\x8a\x98\x77"+behind, refused(api.ErrSum))
		sameRead(t, "another payload's", head(1)+"\x08\x77\x98\x8a\x46"+behind, refused(api.ErrSum))
		sameRead(t, "the right one", head(1)+"\x07\x77\x98\x8a\x46"+behind, taken("\x07"))
	}
}

// P9.2: a whole frame, alone and with bytes behind it, whatever these are.
func TestReadWhole(t *testing.T) {
	for _, p := range []string{"", "\x07", "ab", "\xc5", "\xc5\x00\x00\x00\x00", paperFrame(""), row("a", "b"), great(300)} {
		for _, behind := range []string{"", "\x00", "\xc5", "\x01\x02\x03", "\xff\xff\xff\xff\xff", paperFrame(p), great(100)} {
			sameRead(t, "whole", paperFrame(p)+behind, taken(p))
		}
	}
}

// P9.2: which error comes first where several would do.
func TestReadOrder(t *testing.T) {
	sameRead(t, "no mark, and few bytes", "\xc4", refused(api.ErrMark))
	sameRead(t, "no mark, and a length that may not be", "\x00\xff\xff\xff\xff", refused(api.ErrMark))
	sameRead(t, "no mark, fewer bytes than the length says", "\x00\x00\x00\x00\x09abc", refused(api.ErrMark))
	sameRead(t, "no mark, and another sum", "\x00\x00\x00\x00\x00\x00\x00\x00\x00", refused(api.ErrMark))
	sameRead(t, "few bytes, and a length that would not be", "\xc5\xff\xff\xff", refused(api.ErrCut))
	sameRead(t, "a length that may not be, and fewer bytes than it says", "\xc5\x00\x01\x00\x01", refused(api.ErrLarge))
	sameRead(t, "fewer bytes than the length says, the last four another sum", "\xc5\x00\x00\x00\x02\x07\x00\x00\x00\x00", refused(api.ErrCut))
	sameRead(t, "fewer bytes than the length says, the last four the sum of the others", head(2)+"\x07"+paperFrame("\x07")[6:], refused(api.ErrCut))
	sameRead(t, "another sum, then a whole frame", turned(paperFrame("a"), 9, 1)+paperFrame("b"), refused(api.ErrSum))
}

// P9.2: of bytes by chance: frames, beginnings of frames, frames with bytes turned, and none.
func TestReadByChance(t *testing.T) {
	r := rand.New(rand.NewSource(92))
	seen := map[api.Errno]int{}
	for range 40000 {
		b := paperFrame(payloadBy(r)) + by(r, r.Intn(12))
		for range r.Intn(3) {
			b = turned(b, r.Intn(min(len(b), 12)), byte(1<<r.Intn(8)))
		}
		if r.Intn(3) == 0 {
			b = b[:r.Intn(len(b)+1)]
		}
		want := paperRead(b)
		seen[want.code]++
		sameRead(t, "by chance", b, want)
	}
	for _, code := range []api.Errno{api.OK, api.ErrCut, api.ErrMark, api.ErrLarge, api.ErrSum} {
		if seen[code] < 100 {
			t.Errorf("the answer %d came only %d times", code, seen[code])
		}
	}
}
