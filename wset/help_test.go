package wset_test

import (
	"fmt"
	"iter"
	"math/rand"
	"sort"
	"strings"
	"testing"

	"cloister/api"
	"cloister/wset"
)

// same holds an answer against what is wanted.
func same[A comparable](t *testing.T, what string, got, want A) {
	t.Helper()
	if got != want {
		t.Errorf("%.300s: got %.300s, want %.300s", what, fmt.Sprintf("%#v", got), fmt.Sprintf("%#v", want))
	}
}

// sameList holds a list against what is wanted; nil and empty ones are the same.
func sameList[A comparable](t *testing.T, what string, got, want []A) {
	t.Helper()
	like := len(got) == len(want)
	for i := 0; like && i < len(got); i++ {
		like = got[i] == want[i]
	}
	if !like {
		t.Errorf("%.300s: got %.400s, want %.400s", what, fmt.Sprintf("%#v", got), fmt.Sprintf("%#v", want))
	}
}

// write is a call of Put or Delete, and what is told of it, as a thing that can be compared: of a value what it says counts, not whether it is nil.
type write struct {
	key, value string
	dead       bool
}

func put(key, value string) write { return write{key: key, value: value} }

func gone(key string) write { return write{key: key, dead: true} }

// do does a write to a set, out of memory of its own.
func do(s *wset.Set, w write) api.Errno {
	if w.dead {
		return s.Delete(w.key)
	}
	return s.Put(w.key, []byte(w.value))
}

// written is a set to which all these must be done.
func written(t *testing.T, writes ...write) *wset.Set {
	t.Helper()
	s := wset.New()
	if s == nil {
		t.Fatal("New: no set")
	}
	for _, w := range writes {
		if code := do(s, w); code != api.OK {
			t.Fatalf("%.300s: got %v", fmt.Sprintf("%#v", w), code)
		}
	}
	return s
}

// writesOf is the writes of versions, all of which must have the stamp 0.
func writesOf(t *testing.T, versions []api.Version) (writes []write) {
	t.Helper()
	for _, v := range versions {
		same(t, "the stamp of "+v.Key, v.Stamp, 0)
		writes = append(writes, write{v.Key, string(v.Value), v.Dead})
	}
	return writes
}

// pair is an api.Pair as a thing that can be compared.
type pair struct{ key, value string }

func pairOf(p api.Pair) pair { return pair{p.Key, string(p.Value)} }

// walked is what a walk tells; one beyond any walk of these tests is given up.
func walked(t *testing.T, all iter.Seq[api.Pair]) (pairs []pair) {
	t.Helper()
	if all == nil {
		t.Fatal("no walk")
	}
	for p := range all {
		if len(pairs) > 70000 {
			t.Fatal("a walk without an end")
		}
		pairs = append(pairs, pairOf(p))
	}
	return pairs
}

// teller is a walk through pairs, out of memory of its own, that counts what it told, and how often it was begun, left, and gone to its end.
type teller struct {
	pairs              []api.Pair
	told               []pair
	begun, left, ended int
}

// tellerOf is a walk through these.
func tellerOf(pairs ...pair) *teller {
	u := &teller{}
	for _, p := range pairs {
		u.pairs = append(u.pairs, api.Pair{Key: p.key, Value: []byte(p.value)})
	}
	return u
}

func (u *teller) all(yield func(api.Pair) bool) {
	u.begun++
	u.told = nil
	for _, p := range u.pairs {
		u.told = append(u.told, pairOf(p))
		if !yield(p) {
			u.left++
			return
		}
	}
	u.ended++
}

// great is a text of so many bytes.
func great(n int) string { return strings.Repeat("g", n) }

// paper is a set as the chapter's words have it: all writes that were taken, one behind the other, all of which are gone through for each answer.
type paper struct{ done []write }

// newPaper is a paper with these, which must be such as a set takes.
func newPaper(writes ...write) *paper { return &paper{append([]write(nil), writes...)} }

// do takes a write, unless it may not be.
func (p *paper) do(w write) api.Errno {
	if len(w.key) == 0 || len(w.key) > 255 {
		return 140
	}
	if len(w.value) > 4096 {
		return 141
	}
	p.done = append(p.done, w)
	return 0
}

// last is the last write of a key.
func (p *paper) last(key string) (last write, is bool) {
	for _, w := range p.done {
		if w.key == key {
			last, is = w, true
		}
	}
	return last, is
}

func (p *paper) weight(key string) int {
	w, _ := p.last(key)
	return len(w.key) + len(w.value)
}

// writes is the last write of each key, by key.
func (p *paper) writes() (all []write) {
	for i, w := range p.done {
		later := false
		for _, x := range p.done[i+1:] {
			later = later || x.key == w.key
		}
		if !later {
			all = append(all, w)
		}
	}
	sort.Slice(all, func(i, j int) bool { return all[i].key < all[j].key })
	return all
}

// inRange tells whether a key is in a range.
func inRange(key, from, to string) bool {
	return !(key < from) && (to == "" || key < to)
}

// over is what a walk over pairs tells: those of them whose key was not written, and the puts of the range.
func (p *paper) over(from, to string, pairs []pair) (all []pair) {
	for _, x := range pairs {
		if _, is := p.last(x.key); !is {
			all = append(all, x)
		}
	}
	for _, w := range p.writes() {
		if !w.dead && inRange(w.key, from, to) {
			all = append(all, pair{w.key, w.value})
		}
	}
	sort.Slice(all, func(i, j int) bool { return all[i].key < all[j].key })
	return all
}

// askedKeys is keys around some, and such as are none.
func askedKeys(writes []write) []string {
	all := []string{"", "\x00", "a", "k", "\xff", great(255), great(256), great(5000)}
	for _, w := range writes {
		all = append(all, w.key, w.key+"\x00", w.key[:len(w.key)-1])
	}
	return all
}

// holds holds all that a set tells against its paper; it asks twice, since asking must change nothing.
func holds(t *testing.T, what string, s *wset.Set, p *paper) {
	t.Helper()
	want := p.writes()
	bytes := 0
	for _, w := range want {
		bytes += len(w.key) + len(w.value)
	}
	for range 2 {
		sameList(t, what+": Writes", writesOf(t, s.Writes()), want)
		same(t, what+": Len", s.Len(), len(want))
		same(t, what+": Bytes", s.Bytes(), bytes)
		for _, key := range askedKeys(want) {
			sameGet(t, what, s, p, key)
			same(t, fmt.Sprintf("%s: Weight(%.50q)", what, key), s.Weight(key), p.weight(key))
		}
		sameList(t, what+": Over of none", walked(t, s.Over("", "", nil)), p.over("", "", nil))
		if t.Failed() {
			t.Fatal("behind: ", what)
		}
	}
}

func sameGet(t *testing.T, what string, s *wset.Set, p *paper, key string) {
	t.Helper()
	v, is := s.Get(key)
	want, there := p.last(key)
	if is != there || v.Stamp != 0 || (write{v.Key, string(v.Value), v.Dead}) != want {
		t.Errorf("%.200s: Get(%.50q): got %.100s %v, want %.100s %v", what, key, fmt.Sprintf("%#v", v), is, fmt.Sprintf("%#v", want), there)
	}
}

// someKeys is keys that begin with one another, of all bytes, and the longest.
var someKeys = []string{"\x00", "\x00\x00", "a", "a\x00", "aa", "ab", "b", "z", "\x7f", "\x80", "\xc3\xa4", "\xff", "\xff\xff", great(254), great(255)}

// few is writes of unlike keys: puts and deletes first, last and between, with and without bytes, and over one another.
func few() []write {
	return []write{
		put("b", "old"), put("aa", "1"), gone("c"), put("b", "20"), gone("aa"), put("a\x00", ""), gone("\x00"),
		put("c", "\x00\xff"), put("\xff", great(4096)), gone("z"), put(great(255), "l"), put("a", "x"), put("d", "y"), gone("d"), gone("d"),
	}
}

// lower is pairs that rise: at, between, below and above the keys of few.
func lower() []pair {
	return []pair{
		{"", "no key"}, {"\x00", "u0"}, {"\x00\x00", "u1"}, {"Z", ""}, {"a", "u2"}, {"a\x00", "u3"}, {"a\x00\x00", "u4"}, {"b", "u5"}, {"bb", "u6"},
		{"c", "u7"}, {"d", "u8"}, {"e", "u9"}, {great(254), ""}, {great(255), "u10"}, {great(256), "too long for a key"}, {"zz", great(5000)}, {"\xff", "u11"}, {"\xff\xff", "u12"},
	}
}

// bounds is texts of ranges: keys of few and of lower, texts beside them, and such as are too long for a key.
func bounds() []string {
	all := []string{"", "\x00", "\x00\x00", "Z", "a", "a\x00", "a\x00\x00", "a\x01", "aa", "ab", "b", "b\x00", "bb", "c", "d", "e", "z", "zz", "\x80", "\xff", "\xff\x00", "\xff\xff", "\xff\xff\xff"}
	return append(all, great(254), great(255), great(256), great(300))
}

// aWrite is a write by chance, now and then one that may not be.
func aWrite(r *rand.Rand, dead bool) write {
	w := write{key: someKeys[r.Intn(len(someKeys))], dead: dead}
	if !dead {
		w.value = great(r.Intn(5))
	}
	switch r.Intn(20) {
	case 0:
		w.key = ""
	case 1:
		w.key += great(256)
	case 2:
		if !dead {
			w.value = great(4097)
		}
	}
	return w
}

// step does one write by chance to a set and to its paper, and holds the answers against each other.
func step(t *testing.T, r *rand.Rand, s *wset.Set, p *paper) {
	t.Helper()
	w := aWrite(r, r.Intn(3) == 0)
	same(t, fmt.Sprintf("%.60s", fmt.Sprint(w)), do(s, w), p.do(w))
}
