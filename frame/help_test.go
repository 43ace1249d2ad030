package frame_test

import (
	"encoding/binary"
	"fmt"
	"hash/crc32"
	"math/rand"
	"strings"
	"testing"

	"cloister/api"
	"cloister/frame"
)

// same holds an answer against what is wanted.
func same[A comparable](t *testing.T, what string, got, want A) {
	t.Helper()
	if got != want {
		t.Errorf("%.300s: got %.300s, want %.300s", what, fmt.Sprintf("%#v", got), fmt.Sprintf("%#v", want))
	}
}

// paperFrame is a payload's frame by the chapter's words, of any length, whether a frame may have it or not.
func paperFrame(payload string) string {
	summed := "\xc5" + string(binary.BigEndian.AppendUint32(nil, uint32(len(payload)))) + payload
	return summed + string(binary.BigEndian.AppendUint32(nil, crc32.ChecksumIEEE([]byte(summed))))
}

// reading is what Read answers.
type reading struct {
	payload string
	size    int
	code    api.Errno
}

// refused is a reading that takes nothing.
func refused(code api.Errno) reading { return reading{code: code} }

// taken is a reading that takes a payload's frame.
func taken(payload string) reading { return reading{payload, len(payload) + 9, api.OK} }

func read(b string) reading {
	payload, size, code := frame.Read([]byte(b))
	return reading{string(payload), size, code}
}

// paperRead is Read by the chapter's words, one behind the other.
func paperRead(b string) reading {
	if len(b) == 0 {
		return refused(api.ErrCut)
	}
	if b[0] != 197 {
		return refused(api.ErrMark)
	}
	if len(b) < 5 {
		return refused(api.ErrCut)
	}
	length := uint64(b[1])<<24 + uint64(b[2])<<16 + uint64(b[3])<<8 + uint64(b[4])
	if length > 65536 {
		return refused(api.ErrLarge)
	}
	if uint64(len(b)) < 5+length+4 {
		return refused(api.ErrCut)
	}
	payload := b[5 : 5+length]
	if b[:5+length+4] != paperFrame(payload) {
		return refused(api.ErrSum)
	}
	return taken(payload)
}

// sameRead holds what Read answers, asked twice, against what is wanted.
func sameRead(t *testing.T, what, b string, want reading) {
	t.Helper()
	for range 2 {
		if got := read(b); got != want {
			t.Errorf("%.300s: Read of %d bytes %.300q: got %.300q %d %d, want %.300q %d %d", what, len(b), b, got.payload, got.size, got.code, want.payload, want.size, want.code)
		}
	}
}

// made is the frame that Make must answer of a payload.
func made(t *testing.T, payload string) string {
	t.Helper()
	b, code := frame.Make([]byte(payload))
	if code != api.OK {
		t.Fatalf("Make of %d bytes: got %d", len(payload), code)
	}
	return string(b)
}

// row is the frames of payloads, one behind the other.
func row(payloads ...string) string {
	var b strings.Builder
	for _, p := range payloads {
		b.WriteString(paperFrame(p))
	}
	return b.String()
}

// step is what a walk tells of a frame.
type step struct {
	end     int
	payload string
}

// paperWalk is what All goes through by the chapter's words.
func paperWalk(b string) (steps []step) {
	end := 0
	for {
		r := paperRead(b[end:])
		if r.code != api.OK {
			return steps
		}
		end += r.size
		steps = append(steps, step{end, r.payload})
	}
}

// stepsOf is what a walk over the frames of payloads tells.
func stepsOf(payloads ...string) (steps []step) {
	end := 0
	for _, p := range payloads {
		end += len(p) + 9
		steps = append(steps, step{end, p})
	}
	return steps
}

// walked is what a walk goes through; a walk that goes on and on is given up.
func walked(t *testing.T, walk func(yield func(int, []byte) bool)) (steps []step) {
	t.Helper()
	for end, payload := range walk {
		if len(steps) > 1<<20 {
			t.Fatal("a walk without an end")
		}
		steps = append(steps, step{end, string(payload)})
	}
	return steps
}

// sameSteps holds what a walk tells against what is wanted.
func sameSteps(t *testing.T, what string, got, want []step) {
	t.Helper()
	if len(got) != len(want) {
		t.Errorf("%.300s: got %d frames %.300s, want %d frames %.300s", what, len(got), fmt.Sprintf("%#v", got), len(want), fmt.Sprintf("%#v", want))
		return
	}
	for i := range got {
		if got[i] != want[i] {
			t.Errorf("%.300s: the frame %d: got %.300s, want %.300s", what, i, fmt.Sprintf("%#v", got[i]), fmt.Sprintf("%#v", want[i]))
		}
	}
}

// tells holds All and Count of bytes against what is wanted.
func tells(t *testing.T, what, b string, want []step) {
	t.Helper()
	all := frame.All([]byte(b))
	sameSteps(t, what+": All", walked(t, all), want)
	sameSteps(t, what+": All, gone over again", walked(t, all), want)
	last := 0
	if len(want) > 0 {
		last = want[len(want)-1].end
	}
	count, end := frame.Count([]byte(b))
	same(t, what+": Count's frames", count, len(want))
	same(t, what+": Count's place", end, last)
}

// by is bytes by chance, so many.
func by(r *rand.Rand, n int) string {
	b := make([]byte, n)
	r.Read(b)
	return string(b)
}

// payloadBy is a payload by chance, mostly a short one; now and then all its bytes are one, or it is itself a row of frames.
func payloadBy(r *rand.Rand) string {
	switch r.Intn(8) {
	case 0:
		return ""
	case 1:
		return strings.Repeat(string([]byte{[]byte{0, 1, 9, 197, 255}[r.Intn(5)]}), r.Intn(40))
	case 2:
		return row(by(r, r.Intn(9)), by(r, r.Intn(9)))
	case 3:
		return by(r, r.Intn(600))
	}
	return by(r, r.Intn(30))
}

// payloadsBy is payloads by chance, at most so many.
func payloadsBy(r *rand.Rand, most int) []string {
	all := make([]string, r.Intn(most+1))
	for i := range all {
		all[i] = payloadBy(r)
	}
	return all
}

// tailBy is bytes by chance of which Read takes no frame.
func tailBy(r *rand.Rand) string {
	whole := paperFrame(payloadBy(r))
	switch r.Intn(5) {
	case 0:
		return ""
	case 1:
		return whole[:r.Intn(len(whole))]
	case 2:
		return turned(whole, len(whole)-1-r.Intn(4), byte(1+r.Intn(255))) + row("more")
	case 3:
		return turned(whole, 0, byte(1+r.Intn(255))) + whole
	}
	return "\xc5" + string([]byte{byte(1 + r.Intn(255))}) + by(r, r.Intn(40))
}

// turned is a text one byte of which is put together with another one by exclusive or.
func turned(text string, at int, with byte) string {
	b := []byte(text)
	b[at] ^= with
	return string(b)
}

// spare is bytes with spare room behind them that holds others, and the whole of it.
func spare(text string) (given, whole []byte) {
	whole = append([]byte(text), row("spare", "room")...)
	return whole[:len(text)], whole
}

// scribble writes over an answer, its spare room too.
func scribble(b []byte) {
	b = b[:cap(b)]
	for i := range b {
		b[i] ^= 0xff
	}
}

// great is a payload of so many bytes, no two of them alike for long.
func great(n int) string {
	b := make([]byte, n)
	for i := range b {
		b[i] = byte(i*i>>3 ^ i)
	}
	return string(b)
}
