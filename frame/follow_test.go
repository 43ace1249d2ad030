package frame_test

import (
	"fmt"
	"math/rand"
	"testing"

	"cloister/api"
	"cloister/frame"
)

// some is payloads of several kinds and lengths.
func some() []string {
	return []string{"", "\x00", "\x07", "\xc5", "ab", "\x00\x00\x00\x00", "\xff\xff\xff\xff", paperFrame(""), row("a", "bc"), great(200), great(255), great(256), great(300)}
}

// P9.5: there and back, whatever stands behind.
func TestThereAndBack(t *testing.T) {
	r := rand.New(rand.NewSource(95))
	all := append(some(), great(65535), great(65536))
	for range 2000 {
		all = append(all, payloadBy(r))
	}
	for _, p := range all {
		b := made(t, p)
		same(t, "the frame's size", len(b), len(p)+9)
		sameRead(t, "alone", b, taken(p))
		sameRead(t, "with bytes behind", b+by(r, 1+r.Intn(20)), taken(p))
		sameRead(t, "with itself behind", b+b, taken(p))
		sameRead(t, "with a beginning behind", b+b[:len(b)-1], taken(p))
	}
}

// P9.6: what Read takes is just what Make answers of its payload; of bytes by chance with a sum that is right now and then.
func TestOneForm(t *testing.T) {
	r := rand.New(rand.NewSource(96))
	count := 0
	for range 20000 {
		b := paperFrame(payloadBy(r))
		if r.Intn(2) == 0 {
			b = turned(b, r.Intn(len(b)), byte(r.Intn(256)))
		}
		b += by(r, r.Intn(5))
		got := read(b)
		if got.code == api.OK {
			count++
			same(t, "made anew", made(t, got.payload), b[:got.size])
		}
	}
	if count < 5000 {
		t.Errorf("only %d frames were taken", count)
	}
}

// P9.6: of all bytes that begin like a short frame, with each length and each payload of one byte, Read takes just Make's.
func TestOneFormOfEach(t *testing.T) {
	for x := range 256 {
		whole := paperFrame(string([]byte{byte(x)}))
		for length := range 256 {
			b := turned(whole, 4, 1^byte(length))
			sameRead(t, fmt.Sprint("the length ", length), b, paperRead(b))
			if got := read(b); got.code == api.OK {
				same(t, "made anew", made(t, got.payload), b[:got.size])
			}
		}
	}
}

// P9.7: each shorter beginning of a frame is cut.
func TestEachBeginning(t *testing.T) {
	for _, p := range some() {
		whole := made(t, p)
		for n := range len(whole) {
			sameRead(t, "a beginning", whole[:n], refused(api.ErrCut))
		}
	}
	whole := made(t, great(65536))
	for _, n := range []int{0, 1, 4, 5, 6, 8, 9, 256, 4096, 65535, 65536, 65537, 65540, 65541, 65542, 65543, 65544} {
		sameRead(t, "a beginning of the greatest", whole[:n], refused(api.ErrCut))
	}
}

// sameTurned holds what Read says of a frame one byte of which is another one against what the promise says.
func sameTurned(t *testing.T, whole string, at int, with byte, behind string) {
	t.Helper()
	b := turned(whole, at, with) + behind
	switch {
	case at == 0:
		sameRead(t, "another mark", b, refused(api.ErrMark))
	case at > 4:
		sameRead(t, fmt.Sprint("another byte ", at), b, refused(api.ErrSum))
	default:
		sameRead(t, fmt.Sprint("another length, byte ", at), b, paperRead(b))
		if read(b).size == len(whole) {
			t.Errorf("a frame of this size was taken with another length: %.300q", b)
		}
	}
}

// P9.8: each byte of a frame turned into each other one, alone and with bytes behind.
func TestEachByteTurned(t *testing.T) {
	for _, p := range some() {
		whole := made(t, p)
		for at := range whole {
			for with := 1; with < 256; with++ {
				sameTurned(t, whole, at, byte(with), "")
			}
			sameTurned(t, whole, at, byte(1+at%255), whole)
			sameTurned(t, whole, at, 128, "\x00\x01\x02")
		}
	}
}

// P9.8: of the greatest frame too.
func TestGreatestTurned(t *testing.T) {
	whole := made(t, great(65536))
	for _, at := range []int{0, 1, 2, 3, 4, 5, 6, 255, 4096, 32768, 65535, 65540, 65541, 65542, 65543, 65544} {
		for _, with := range []byte{1, 2, 16, 128, 255} {
			sameTurned(t, whole, at, with, "")
			sameTurned(t, whole, at, with, "behind")
		}
	}
}

// P9.8: with another length Read may even take something: a frame that ends within the payload, or behind the frame.
func TestAnotherLengthIsTaken(t *testing.T) {
	inner := paperFrame("four")
	outer := made(t, inner[5:]+great(252)) // its payload has 260 bytes: with the third byte of the length 0 it has 4
	same(t, "the outer length", outer[1:5], "\x00\x00\x01\x04")
	sameRead(t, "turned", turned(outer, 3, 1), taken("four"))
	sameTurned(t, outer, 3, 1, "")
	short := made(t, "four")
	longer := turned(short, 4, 4^14) // 14 bytes: its own four and sum, and six behind
	rest := longer[5:] + "behind"
	whole := paperFrame(rest)
	sameRead(t, "turned, with the rest of a longer one behind", longer+whole[len(longer):], taken(rest))
}

// P9.9: rows of frames, with bytes behind them of which Read takes none.
func TestRowsByChance(t *testing.T) {
	r := rand.New(rand.NewSource(99))
	for range 3000 {
		payloads, tail := payloadsBy(r, 9), tailBy(r)
		same(t, "a tail is taken", paperRead(tail).code == api.OK, false)
		var b string
		for _, p := range payloads {
			b += made(t, p)
		}
		tells(t, "a row", b+tail, stepsOf(payloads...))
	}
}

// P9.9: of every beginning of a row the payloads whose frames lie in it whole.
func TestBeginningsOfRows(t *testing.T) {
	r := rand.New(rand.NewSource(990))
	rows := [][]string{{""}, {"a"}, {"", ""}, {"\x07", "", "\x01\x02"}, {row("a", "b"), "\xc5", great(260)}}
	for range 20 {
		rows = append(rows, payloadsBy(r, 5))
	}
	for _, payloads := range rows {
		b, steps := row(payloads...)+"\xc5\x00", stepsOf(payloads...)
		whole := 0
		for n := range len(b) + 1 {
			for whole < len(steps) && steps[whole].end <= n {
				whole++
			}
			tells(t, fmt.Sprint("the first ", n, " bytes of a row"), b[:n], steps[:whole])
		}
	}
}

// P9.9: a long row of frames, the greatest among them; and long bytes that are none.
func TestLongRow(t *testing.T) {
	var payloads []string
	for i := range 20000 {
		payloads = append(payloads, great(i%40))
	}
	payloads = append(payloads, great(65536), "", great(65535))
	tells(t, "a long row", row(payloads...)+"\xc5", stepsOf(payloads...))
	count, end := frame.Count(make([]byte, 1<<24))
	same(t, "frames of noughts", count, 0)
	same(t, "place of noughts", end, 0)
}
