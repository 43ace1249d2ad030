package frame_test

import (
	"math/rand"
	"testing"

	"cloister/api"
	"cloister/frame"
)

// sameMake holds what Make answers, asked twice, against what is wanted.
func sameMake(t *testing.T, what string, payload []byte, want string, code api.Errno) {
	t.Helper()
	for range 2 {
		got, is := frame.Make(payload)
		if string(got) != want || is != code {
			t.Errorf("%s: Make of %d bytes: got %d bytes %.300q %d, want %d bytes %.300q %d", what, len(payload), len(got), got, is, len(want), want, code)
		}
	}
}

// P9.1: the frame of nothing, of none, of each single byte.
func TestMakeSmall(t *testing.T) {
	nothing := "\xc5\x00\x00\x00\x00\xe7\xd7\x90\xb6"
	sameMake(t, "none", nil, nothing, api.OK)
	sameMake(t, "nothing", []byte{}, nothing, api.OK)
	sameMake(t, "one byte", []byte{7}, "\xc5\x00\x00\x00\x01\x07\x77\x98\x8a\x46", api.OK)
	for x := range 256 {
		p := []byte{byte(x)}
		sameMake(t, "one byte", p, paperFrame(string(p)), api.OK)
	}
}

// P9.1: lengths around each byte of the length, up to the limit.
func TestMakeLengths(t *testing.T) {
	for _, n := range []int{0, 1, 2, 9, 127, 128, 196, 197, 255, 256, 257, 511, 512, 4096, 32767, 32768, 65279, 65280, 65534, 65535, 65536} {
		p := great(n)
		b := made(t, p)
		same(t, "size", len(b), n+9)
		same(t, "mark", b[0], 197)
		same(t, "length", b[1:5], string([]byte{0, byte(n >> 16), byte(n >> 8), byte(n)}))
		same(t, "payload", b[5:5+n] == p, true)
		sameMake(t, "a length", []byte(p), paperFrame(p), api.OK)
	}
}

// P9.1: above the limit there is no frame.
func TestMakeLarge(t *testing.T) {
	for _, n := range []int{65537, 65538, 131072, 1 << 17, 1<<17 + 1, 1 << 20, 1<<24 + 1} {
		sameMake(t, "above the limit", make([]byte, n), "", api.ErrLarge)
	}
}

// P9.1: of payloads by chance.
func TestMakeByChance(t *testing.T) {
	r := rand.New(rand.NewSource(91))
	for range 3000 {
		p := payloadBy(r)
		sameMake(t, "by chance", []byte(p), paperFrame(p), api.OK)
	}
}
