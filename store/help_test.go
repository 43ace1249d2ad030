package store_test

import (
	"fmt"
	"math"
	"math/rand"
	"sort"
	"strings"
	"testing"

	"cloister/api"
	"cloister/store"
)

// same holds an answer against what is wanted.
func same[A comparable](t *testing.T, what string, got, want A) {
	t.Helper()
	if got != want {
		t.Errorf("%.300s: got %.300s, want %.300s", what, fmt.Sprintf("%#v", got), fmt.Sprintf("%#v", want))
	}
}

// fact is a version as a thing that can be compared: of a Value what it says counts, not whether it is nil.
type fact struct {
	key   string
	stamp int
	value string
	dead  bool
}

func put(key string, stamp int, value string) fact {
	return fact{key: key, stamp: stamp, value: value}
}

func gone(key string, stamp int) fact { return fact{key: key, stamp: stamp, dead: true} }

// versionOf is the version of a fact, in memory of its own.
func versionOf(f fact) api.Version {
	return api.Version{Key: f.key, Stamp: f.stamp, Value: []byte(f.value), Dead: f.dead}
}

// versionsOf is the versions of facts.
func versionsOf(facts []fact) (versions []api.Version) {
	for _, f := range facts {
		versions = append(versions, versionOf(f))
	}
	return versions
}

// factsOf is the facts of versions.
func factsOf(versions []api.Version) (facts []fact) {
	for _, v := range versions {
		facts = append(facts, fact{v.Key, v.Stamp, string(v.Value), v.Dead})
	}
	return facts
}

// pair is an api.Pair as a thing that can be compared.
type pair struct{ key, value string }

// scanned is what a walk tells; one beyond any store of these tests is given up.
func scanned(t *testing.T, s *store.Store, from, to string, stamp int) (pairs []pair) {
	t.Helper()
	for p := range s.Scan(from, to, stamp) {
		if len(pairs) > 70000 {
			t.Fatal("a walk without an end")
		}
		pairs = append(pairs, pair{p.Key, string(p.Value)})
	}
	return pairs
}

// great is a text of so many bytes.
func great(n int) string { return strings.Repeat("g", n) }

// stored is a store to which Apply must take all these.
func stored(t *testing.T, facts ...fact) *store.Store {
	t.Helper()
	s := store.New()
	for _, f := range facts {
		if code := s.Apply(versionOf(f)); code != api.OK {
			t.Fatalf("Apply of %.300s: got %v", fmt.Sprintf("%#v", f), code)
		}
	}
	return s
}

// sameList holds a list against what is wanted; nil and empty ones are the same.
func sameList[A comparable](t *testing.T, what string, got, want []A) {
	t.Helper()
	like := len(got) == len(want)
	for i := 0; like && i < len(got); i++ {
		like = got[i] == want[i]
	}
	if !like {
		t.Errorf("%.300s: got %.400s, want %.400s", what, fmt.Sprintf("%#v", got), fmt.Sprintf("%#v", want))
	}
}

// paper is a store as the chapter's words have it: a list of versions, in no order, all of which are gone through for each answer.
type paper struct{ held []fact }

// newPaper is a paper with these, which must be such as Apply takes.
func newPaper(facts ...fact) *paper { return &paper{append([]fact(nil), facts...)} }

func (p *paper) apply(f fact) api.Errno {
	if len(f.key) == 0 || len(f.key) > 255 {
		return 140
	}
	if len(f.value) > 4096 || f.dead && f.value != "" {
		return 141
	}
	if f.stamp < 0 || f.stamp > 1<<62 {
		return 2
	}
	for _, x := range p.held {
		if x.key == f.key && x.stamp >= f.stamp {
			return 130
		}
	}
	p.held = append(p.held, f)
	return 0
}

// counts is the version of a key that counts at a stamp.
func (p *paper) counts(key string, stamp int) (best fact, is bool) {
	for _, x := range p.held {
		if x.key == key && x.stamp <= stamp && (!is || x.stamp > best.stamp) {
			best, is = x, true
		}
	}
	return best, is
}

func (p *paper) get(key string, stamp int) (string, bool) {
	if x, is := p.counts(key, stamp); is && !x.dead {
		return x.value, true
	}
	return "", false
}

func (p *paper) newest(key string) (int, bool) {
	x, is := p.counts(key, math.MaxInt)
	return x.stamp, is
}

// keys is the keys that have a version, rising.
func (p *paper) keys() (keys []string) {
	for _, x := range p.sorted() {
		if len(keys) == 0 || keys[len(keys)-1] != x.key {
			keys = append(keys, x.key)
		}
	}
	return keys
}

func (p *paper) sorted() []fact {
	all := append([]fact(nil), p.held...)
	sort.Slice(all, func(i, j int) bool {
		return all[i].key < all[j].key || all[i].key == all[j].key && all[i].stamp < all[j].stamp
	})
	return all
}

func (p *paper) scan(from, to string, stamp int) (pairs []pair) {
	for _, key := range p.keys() {
		if value, is := p.get(key, stamp); is && key >= from && (to == "" || key < to) {
			pairs = append(pairs, pair{key, value})
		}
	}
	return pairs
}

func (p *paper) vacuum(horizon int) int {
	var left []fact
	for _, x := range p.held {
		if at, is := p.counts(x.key, horizon); !is || x.stamp > horizon || x.stamp == at.stamp {
			left = append(left, x)
		}
	}
	n := len(p.held) - len(left)
	p.held = left
	return n
}

func (p *paper) live() (n int) {
	for _, key := range p.keys() {
		if value, is := p.get(key, math.MaxInt); is {
			n += len(key) + len(value)
		}
	}
	return n
}

// askedStamps is stamps around those of some facts, and the ends of the ints.
func askedStamps(facts []fact) []int {
	all := []int{math.MinInt, math.MinInt + 1, -1, 0, 1, 1 << 62, math.MaxInt}
	for _, f := range facts {
		all = append(all, f.stamp-1, f.stamp, f.stamp+1)
	}
	sort.Ints(all)
	var once []int
	for i, s := range all {
		if i == 0 || s != all[i-1] {
			once = append(once, s)
		}
	}
	return once
}

// askedKeys is keys around some, and such as are none.
func askedKeys(keys []string) []string {
	all := []string{"", "\x00", "a", "k", "\xff", great(255), great(256)}
	for _, k := range keys {
		all = append(all, k, k+"\x00", k[:len(k)-1])
	}
	return all
}

// holds holds what a store tells against its paper: all keys at all stamps, the whole scan at each, all else; it asks twice, since asking must change nothing.
func holds(t *testing.T, what string, s *store.Store, p *paper) {
	t.Helper()
	stamps, keys := askedStamps(p.held), askedKeys(p.keys())
	for range 2 {
		sameList(t, what+": Versions", factsOf(s.Versions()), p.sorted())
		same(t, what+": Live", s.Live(), p.live())
		k, n := s.Len()
		same(t, what+": Len's keys", k, len(p.keys()))
		same(t, what+": Len's versions", n, len(p.held))
		for _, key := range keys {
			sameNewest(t, what, s, p, key)
			for _, stamp := range stamps {
				sameGet(t, what, s, p, key, stamp)
			}
		}
		for _, stamp := range stamps {
			sameList(t, fmt.Sprint(what, ": Scan at ", stamp), scanned(t, s, "", "", stamp), p.scan("", "", stamp))
		}
		if t.Failed() {
			t.Fatal("behind: ", what)
		}
	}
}

func sameNewest(t *testing.T, what string, s *store.Store, p *paper, key string) {
	t.Helper()
	n, is := s.Newest(key)
	want, there := p.newest(key)
	if n != want || is != there {
		t.Errorf("%.200s: Newest(%.50q): got %d %v, want %d %v", what, key, n, is, want, there)
	}
}

func sameGet(t *testing.T, what string, s *store.Store, p *paper, key string, stamp int) {
	t.Helper()
	b, is := s.Get(key, stamp)
	want, there := p.get(key, stamp)
	if string(b) != want || is != there || !is && b != nil && len(b) > 0 {
		t.Errorf("%.200s: Get(%.50q, %d): got %.50q %v, want %.50q %v", what, key, stamp, b, is, want, there)
	}
}

// someKeys is keys that begin with one another, of all bytes, and the longest.
var someKeys = []string{"\x00", "\x00\x00", "a", "a\x00", "aa", "ab", "b", "z", "\x7f", "\x80", "\xc3\xa4", "\xff", "\xff\xff", great(254), great(255)}

// few is versions that Apply takes in this order: of unlike numbers, with dead ones first, last and between, with and without bytes.
func few() []fact {
	return []fact{
		put("b", 2, "20"), put("a", 3, "30"), gone("b", 5), put("c", 4, ""), put("b", 7, "21"),
		gone("d", 1), gone("d", 6), put("a\x00", 0, "\x00"), gone("c", 9), put("\xff", 1<<62, great(4096)),
		put("aa", 1, ""), put("aa", 2, "x"), gone("aa", 3), put("aa", 4, "y"), put(great(255), 5, "l"),
	}
}

// step does one call by chance to a store and to its paper, and holds the answers against each other. Of 8 calls lean are Applies.
func step(t *testing.T, r *rand.Rand, lean int, s *store.Store, p *paper) {
	t.Helper()
	key := someKeys[r.Intn(len(someKeys))]
	newest, _ := p.newest(key)
	if r.Intn(8) < lean {
		f := fact{key: key, stamp: newest + r.Intn(6) - 1, dead: r.Intn(4) == 0}
		if !f.dead || r.Intn(10) == 0 {
			f.value = great(r.Intn(5))
		}
		same(t, fmt.Sprintf("Apply %#v", f), s.Apply(versionOf(f)), p.apply(f))
		return
	}
	h := r.Intn(newest+12) - 4
	same(t, fmt.Sprint("Vacuum ", h), s.Vacuum(h), p.vacuum(h))
}
