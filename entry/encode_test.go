package entry_test

import (
	"fmt"
	"math/rand"
	"strings"
	"testing"

	"cloister/api"
	"cloister/entry"
)

// sameBytes holds what Encode says of a fact against bytes that are written out.
func sameBytes(t *testing.T, f fact, want string) {
	t.Helper()
	b, code := entry.Encode(f.entryOf())
	same(t, fmt.Sprintf("Encode of %+v", f), code, api.OK)
	same(t, fmt.Sprintf("Encode of %+v", f), string(b), want)
}

// P10.2: each Kind, byte for byte.
func TestEncodeEachKind(t *testing.T) {
	sameBytes(t, put("k", "ab"), "\x01\x02k\x04ab")
	sameBytes(t, put("key", ""), "\x01\x06key\x00")
	sameBytes(t, gone("ab"), "\x02\x04ab")
	sameBytes(t, at(3, 1, 65), "\x03\x02\x82\x01")
	sameBytes(t, at(4, 65, 1), "\x04\x82\x01\x02")
	sameBytes(t, at(6, 1, 2), "\x06\x02\x04")
	sameBytes(t, version("k", 5, "x"), "\x05\x02k\x0a\x00\x02x")
	sameBytes(t, version("k", 5, ""), "\x05\x02k\x0a\x00\x00")
	sameBytes(t, dead("k", 5), "\x05\x02k\x0a\x01\x00")
}

// P10.2: the limits, byte for byte.
func TestEncodeLimits(t *testing.T) {
	key, value := strings.Repeat("k", 255), strings.Repeat("v", 4096)
	most := strings.Repeat("\x80", 9) + "\x01" // 2^63, the fold of MaxStamp, in groups of seven bits
	sameBytes(t, put(key, value), "\x01\xfe\x03"+key+"\x80\x40"+value)
	sameBytes(t, gone(key), "\x02\xfe\x03"+key)
	sameBytes(t, version(key, 1<<62, value), "\x05\xfe\x03"+key+most+"\x00\x80\x40"+value)
	sameBytes(t, dead(key, 1<<62), "\x05\xfe\x03"+key+most+"\x01\x00")
	for _, kind := range []int{3, 4, 6} {
		sameBytes(t, at(kind, 1<<62, 1<<31-1), string([]byte{byte(kind)})+most+"\xfe\xff\xff\xff\x0f")
	}
}

// P10.2: entries at and around each limit.
func TestEncodeGood(t *testing.T) {
	for _, f := range good() {
		same(t, fmt.Sprintf("may be: %+v", f), paperMay(f), true)
		sameCheck(t, "may be", f)
	}
}

// P10.2: what may not be has no bytes.
func TestEncodeWrong(t *testing.T) {
	for _, f := range wrong() {
		b, code := entry.Encode(f.entryOf())
		same(t, fmt.Sprintf("Encode of %+v", f), code, api.ErrEntry)
		same(t, fmt.Sprintf("bytes of %+v", f), string(b), "")
		sameCheck(t, "may not be", f)
	}
}

// P10.2: a Value that is not there is an empty one.
func TestEncodeNil(t *testing.T) {
	for _, value := range [][]byte{nil, {}, make([]byte, 0, 9), []byte("abc")[:0]} {
		b, code := entry.Encode(api.Entry{Kind: 1, Key: "k", Value: value})
		same(t, "put", string(b), "\x01\x02k\x00")
		same(t, "put", code, api.OK)
		b, code = entry.Encode(api.Entry{Kind: 5, Key: "k", Value: value, Dead: true})
		same(t, "dead", string(b), "\x05\x02k\x00\x01\x00")
		same(t, "dead", code, api.OK)
		b, code = entry.Encode(api.Entry{Kind: 2, Key: "k", Value: value})
		same(t, "delete", string(b), "\x02\x02k")
		same(t, "delete", code, api.OK)
	}
}

// P10.2: no two entries that may be have the same bytes.
func TestEncodeTellsApart(t *testing.T) {
	r := rand.New(rand.NewSource(102))
	seen := map[string]fact{}
	all := append(good(), few()...)
	for range 5000 {
		all = append(all, factBy(r))
	}
	for _, f := range all {
		b, _ := entry.Encode(f.entryOf())
		if other, there := seen[string(b)]; there && other != f {
			t.Errorf("%.300s and %.300s have the same bytes", fmt.Sprintf("%+v", f), fmt.Sprintf("%+v", other))
		}
		seen[string(b)] = f
	}
}
