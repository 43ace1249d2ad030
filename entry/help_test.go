package entry_test

import (
	"encoding/binary"
	"fmt"
	"math"
	"math/rand"
	"strings"
	"testing"

	"cloister/api"
	"cloister/entry"
)

// same holds an answer against what is wanted.
func same[A comparable](t *testing.T, what string, got, want A) {
	t.Helper()
	if got != want {
		t.Errorf("%.300s: got %.300s, want %.300s", what, fmt.Sprintf("%#v", got), fmt.Sprintf("%#v", want))
	}
}

// fact is an entry as a thing that can be compared: of a Value what it says counts, not whether it is nil.
type fact struct {
	kind, stamp, count int
	key, value         string
	dead               bool
}

// entryOf is the entry of a fact, in memory of its own.
func (f fact) entryOf() api.Entry {
	return api.Entry{Kind: f.kind, Stamp: f.stamp, Count: f.count, Key: f.key, Value: []byte(f.value), Dead: f.dead}
}

// factOf is an entry's fact.
func factOf(e api.Entry) fact {
	return fact{e.Kind, e.Stamp, e.Count, e.Key, string(e.Value), e.Dead}
}

// told is a version as a thing that can be compared.
type told struct {
	key   string
	stamp int
	value string
	dead  bool
}

// versionOf is the version of what is told, in memory of its own.
func (v told) versionOf() api.Version {
	return api.Version{Key: v.key, Stamp: v.stamp, Value: []byte(v.value), Dead: v.dead}
}

// toldOf is what a version tells.
func toldOf(v api.Version) told {
	return told{v.Key, v.Stamp, string(v.Value), v.Dead}
}

func put(key, value string) fact { return fact{kind: 1, key: key, value: value} }

func gone(key string) fact { return fact{kind: 2, key: key} }

func at(kind, stamp, count int) fact { return fact{kind: kind, stamp: stamp, count: count} }

func version(key string, stamp int, value string) fact {
	return fact{kind: 5, key: key, stamp: stamp, value: value}
}

func dead(key string, stamp int) fact { return fact{kind: 5, key: key, stamp: stamp, dead: true} }

// orderOf is the chapter's table: of a kind the fields that count, in their order, a letter each.
func orderOf(kind int) string {
	return map[int]string{1: "KV", 2: "K", 3: "SC", 4: "SC", 5: "KSDV", 6: "SC"}[kind]
}

// paperMay is the chapter's 'may be', clause by clause.
func paperMay(f fact) bool {
	counts := func(letter string) bool { return strings.Contains(orderOf(f.kind), letter) }
	if f.kind < 1 || f.kind > 6 {
		return false
	}
	if counts("K") && (len(f.key) < 1 || len(f.key) > 255) || !counts("K") && f.key != "" {
		return false
	}
	if counts("V") && len(f.value) > 4096 || !counts("V") && f.value != "" {
		return false
	}
	if f.dead && (f.value != "" || !counts("D")) {
		return false
	}
	if counts("S") && (f.stamp < 0 || f.stamp > 4611686018427387904) || !counts("S") && f.stamp != 0 {
		return false
	}
	return counts("C") && f.count >= 0 && f.count <= 2147483647 || !counts("C") && f.count == 0
}

// paperCode is what Check says of a fact.
func paperCode(f fact) api.Errno {
	if paperMay(f) {
		return api.OK
	}
	return api.ErrEntry
}

// short is the short form of a number: the library's variable-length numbers are folded and cut alike.
func short(n int) string { return string(binary.AppendVarint(nil, int64(n))) }

// counted is bytes behind the short form of their number.
func counted(s string) string { return short(len(s)) + s }

// paperBytes is a fact's bytes by the chapter's words, whether it may be or not.
func paperBytes(f fact) string {
	b := string([]byte{byte(f.kind)})
	for _, letter := range orderOf(f.kind) {
		switch letter {
		case 'K':
			b += counted(f.key)
		case 'V':
			b += counted(f.value)
		case 'S':
			b += short(f.stamp)
		case 'C':
			b += short(f.count)
		case 'D':
			b += map[bool]string{false: "\x00", true: "\x01"}[f.dead]
		}
	}
	return b
}

// loose takes an entry off bytes however its numbers are written and whatever stands behind; where they end it goes on with zeros.
type loose struct{ rest string }

func (l *loose) next(n int) string {
	n = max(0, min(n, len(l.rest)))
	taken := l.rest[:n]
	l.rest = l.rest[n:]
	return taken
}

func (l *loose) number() int {
	n, size := binary.Varint([]byte(l.rest))
	l.next(size)
	return int(n)
}

func (l *loose) fact() fact {
	var f fact
	if kind := l.next(1); kind != "" {
		f.kind = int(kind[0])
	}
	for _, letter := range orderOf(f.kind) {
		switch letter {
		case 'K':
			f.key = l.next(l.number())
		case 'V':
			f.value = l.next(l.number())
		case 'S':
			f.stamp = l.number()
		case 'C':
			f.count = l.number()
		case 'D':
			f.dead = l.next(1) == "\x01"
		}
	}
	return f
}

// paperDecode is Decode by the chapter's words: the entry that may be whose bytes are these, byte for byte, if there is one.
func paperDecode(b string) (fact, api.Errno) {
	l := loose{b}
	if f := l.fact(); paperMay(f) && paperBytes(f) == b {
		return f, api.OK
	}
	return fact{}, api.ErrEntry
}

// sameCheck holds what Check and Encode say of a fact, asked twice, against the chapter's words.
func sameCheck(t *testing.T, what string, f fact) {
	t.Helper()
	want, code := "", paperCode(f)
	if code == api.OK {
		want = paperBytes(f)
	}
	for range 2 {
		if got := entry.Check(f.entryOf()); got != code {
			t.Errorf("%s: Check of %.300s: got %d, want %d", what, fmt.Sprintf("%+v", f), got, code)
		}
		got, is := entry.Encode(f.entryOf())
		if string(got) != want || is != code {
			t.Errorf("%s: Encode of %.300s: got %.300x %d, want %.300x %d", what, fmt.Sprintf("%+v", f), got, is, want, code)
		}
	}
}

// sameDecode holds what Decode says of bytes, asked twice, against the chapter's words.
func sameDecode(t *testing.T, what, b string) {
	t.Helper()
	want, code := paperDecode(b)
	for range 2 {
		got, is := entry.Decode([]byte(b))
		if factOf(got) != want || is != code {
			t.Errorf("%s: Decode of %d bytes %.300x: got %.300s %d, want %.300s %d", what, len(b), b, fmt.Sprintf("%+v", factOf(got)), is, fmt.Sprintf("%+v", want), code)
		}
	}
}

// refused holds that Decode takes no entry, and that the chapter's words say so too.
func refused(t *testing.T, what, b string) {
	t.Helper()
	if got, code := entry.Decode([]byte(b)); code != api.ErrEntry || factOf(got) != (fact{}) {
		t.Errorf("%s: Decode of %d bytes %.300x: got %.300s %d, want ErrEntry", what, len(b), b, fmt.Sprintf("%+v", factOf(got)), code)
	}
	sameDecode(t, what, b)
}

// keys is keys at and around the limits that may be.
func keys() []string {
	return []string{"k", "\x00", "\xff", "ab", "\x80\x01", strings.Repeat("k", 63), great(64), great(127), great(128), great(254), great(255)}
}

// values is values that may be.
func values() []string {
	return []string{"", "a", "\x00", "\x00\x00", "\xff\xff\xff", great(63), great(64), great(255), great(256), great(4095), great(4096)}
}

// stamps is stamps that may be: each length of the short form, and the limits.
func stamps() []int {
	all := []int{0, 1, 2, 1<<62 - 1, 1 << 62}
	for bits := 6; bits < 62; bits += 7 {
		all = append(all, 1<<bits-1, 1<<bits)
	}
	return all
}

// counts is counts that may be.
func counts() []int {
	return []int{0, 1, 2, 63, 64, 8191, 8192, 1<<20 - 1, 1 << 20, 1<<27 - 1, 1 << 27, 1<<31 - 2, 1<<31 - 1}
}

// wrongNumbers is numbers that are neither a stamp nor a count.
func wrongNumbers() []int {
	return []int{-1, -2, -64, -65, -1 << 31, -1 << 62, -1<<62 - 1, math.MinInt, 1<<62 + 1, math.MaxInt - 1, math.MaxInt}
}

// good is entries of each kind that may be, at and around every limit.
func good() (all []fact) {
	for _, key := range keys() {
		all = append(all, gone(key), dead(key, 5))
		for _, value := range values() {
			all = append(all, put(key, value), version(key, 7, value))
		}
	}
	for _, stamp := range stamps() {
		all = append(all, version("k", stamp, "x"), dead("k", stamp))
		for _, count := range counts() {
			all = append(all, at(3, stamp, count), at(4, stamp, count), at(6, stamp, count))
		}
	}
	return all
}

// few is short entries of each kind that may be.
func few() []fact {
	return []fact{put("k", ""), put("k", "ab"), put("\x00\xff", "\x00"), gone("k"), gone("abc"), at(3, 0, 0), at(3, 3, 2), at(3, 64, 8192), at(4, 0, 0), at(4, 1<<62, 1<<31-1), at(6, 64, 1), at(6, 1, 64), version("k", 5, "x"), version("k", 0, ""), version("ab", 1<<62, "xyz"), dead("k", 5), dead("key", 1<<40)}
}

// wrong is entries that may not be, each for one reason.
func wrong() []fact {
	all := []fact{{}, {kind: 7}, {kind: -1}, {kind: 257, key: "k"}, put("", "a"), put("", ""), gone(""), version("", 1, "a"), dead("", 1), put(great(256), "a"), gone(great(256)), version(great(256), 1, "a"), put("k", great(4097)), version("k", 1, great(4097)), {kind: 5, key: "k", stamp: 5, value: "x", dead: true}, at(3, 1, 1<<31), at(4, 1, 1<<31), at(6, 1, 1<<31)}
	for _, n := range wrongNumbers() {
		all = append(all, version("k", n, "a"), dead("k", n))
		for _, kind := range []int{3, 4, 6} {
			all = append(all, at(kind, n, 1), at(kind, 1, n))
		}
	}
	return all
}

// by is bytes by chance, so many.
func by(r *rand.Rand, n int) string {
	b := make([]byte, n)
	r.Read(b)
	return string(b)
}

// factBy is an entry by chance that may be.
func factBy(r *rand.Rand) fact {
	key, stamp, count := by(r, 1+r.Intn(255)>>r.Intn(9)), int(r.Uint64()>>(2+r.Intn(62))), int(r.Uint32()>>(1+r.Intn(31)))
	value := by(r, r.Intn(4097)>>r.Intn(13))
	switch kind := 1 + r.Intn(7); kind {
	case 1:
		return put(key, value)
	case 2:
		return gone(key)
	case 5:
		return version(key, stamp, value)
	case 7:
		return dead(key, stamp)
	default:
		return at(kind, stamp, count)
	}
}

// twisted is an entry one field of which is another one by chance.
func twisted(r *rand.Rand, f fact) fact {
	numbers := append(append(stamps(), counts()...), wrongNumbers()...)
	switch r.Intn(7) {
	case 0:
		f.kind = r.Intn(9) - 1
	case 1:
		f.kind += 256 * (r.Intn(5) - 2)
	case 2:
		f.stamp = numbers[r.Intn(len(numbers))]
	case 3:
		f.count = numbers[r.Intn(len(numbers))]
	case 4:
		f.key = great([]int{0, 1, 254, 255, 256, 257}[r.Intn(6)])
	case 5:
		f.value = great([]int{0, 1, 4095, 4096, 4097}[r.Intn(5)])
	default:
		f.dead = !f.dead
	}
	return f
}

// turned is a text one byte of which is put together with another one by exclusive or.
func turned(text string, at int, with byte) string {
	b := []byte(text)
	b[at] ^= with
	return string(b)
}

// spare is bytes with spare room behind them that holds others, and the whole of it.
func spare(text string) (given, whole []byte) {
	whole = append([]byte(text), "spare room"...)
	return whole[:len(text)], whole
}

// scribble writes over an answer, its spare room too.
func scribble(b []byte) {
	b = b[:cap(b)]
	for i := range b {
		b[i] ^= 0xff
	}
}

// great is so many bytes, no two of them alike for long.
func great(n int) string {
	b := make([]byte, n)
	for i := range b {
		b[i] = byte(i*i>>3 ^ i + 1)
	}
	return string(b)
}
