package wset_test

import (
	"fmt"
	"maps"
	"math/rand"
	"runtime"
	"slices"
	"strings"
	"testing"
	"weak"

	"cloister/api"
	"cloister/wset"
)

// P16.2 to P16.6: over rows of calls by chance a set is what the chapter's words say.
func TestRowsOfCalls(t *testing.T) {
	r := rand.New(rand.NewSource(16))
	for range 20 {
		s, p := wset.New(), newPaper()
		for i := range 200 {
			step(t, r, s, p)
			if i%10 == 0 {
				holds(t, "in the midst of a row of calls", s, p)
				from, to := bounds()[r.Intn(len(bounds()))], bounds()[r.Intn(len(bounds()))]
				sameList(t, "Over", walked(t, s.Over(from, to, tellerOf(lower()...).all)), p.over(from, to, lower()))
			}
		}
		if t.Failed() {
			return
		}
	}
}

// sums is what the Weights of the keys of Writes are together, and how many these are.
func sums(s *wset.Set) (bytes, count int) {
	for _, v := range s.Writes() {
		bytes += s.Weight(v.Key)
		count++
	}
	return bytes, count
}

// P16.8: Bytes and Len are the sums of what is told of each key, behind every call; a refused one changes none of them.
func TestSums(t *testing.T) {
	r := rand.New(rand.NewSource(168))
	s := wset.New()
	for range 1500 {
		bytes, count := s.Bytes(), s.Len()
		w := aWrite(r, r.Intn(2) == 0)
		weight := s.Weight(w.key)
		if do(s, w) != api.OK {
			same(t, "Bytes behind a refusal", s.Bytes(), bytes)
			same(t, "Len behind a refusal", s.Len(), count)
			same(t, "Weight behind a refusal", s.Weight(w.key), weight)
		} else {
			same(t, "Weight", s.Weight(w.key), len(w.key)+len(w.value))
			same(t, "Bytes less what it was", s.Bytes(), bytes-weight+s.Weight(w.key))
		}
		bytes, count = sums(s)
		same(t, "Bytes", s.Bytes(), bytes)
		same(t, "Len", s.Len(), count)
	}
	var none *wset.Set
	bytes, count := sums(none)
	same(t, "of none", bytes+count+none.Bytes()+none.Len(), 0)
}

// pairsIn is the pairs of a map in a range, by key.
func pairsIn(held map[string]string, from, to string) (pairs []pair) {
	for _, key := range slices.Sorted(maps.Keys(held)) {
		if inRange(key, from, to) {
			pairs = append(pairs, pair{key, held[key]})
		}
	}
	return pairs
}

// P16.9: a walk over the pairs of a map in a range tells just those of that map to which the writes were done.
func TestAMapOverAMap(t *testing.T) {
	r := rand.New(rand.NewSource(169))
	for range 250 {
		held := map[string]string{}
		for range r.Intn(12) {
			held[someKeys[r.Intn(len(someKeys))]] = great(r.Intn(4)) + "under"
		}
		s, now := wset.New(), maps.Clone(held)
		for range r.Intn(25) {
			w := aWrite(r, r.Intn(2) == 0)
			if do(s, w) != api.OK {
				continue
			}
			if w.dead {
				delete(now, w.key)
			} else {
				now[w.key] = w.value
			}
		}
		for range 20 {
			from, to := bounds()[r.Intn(len(bounds()))], bounds()[r.Intn(len(bounds()))]
			got := walked(t, s.Over(from, to, tellerOf(pairsIn(held, from, to)...).all))
			sameList(t, fmt.Sprintf("from %.20q to %.20q", from, to), got, pairsIn(now, from, to))
		}
		sameList(t, "all", walked(t, s.Over("", "", tellerOf(pairsIn(held, "", "")...).all)), pairsIn(now, "", ""))
	}
}

// heldOf is how many bytes of memory are held on to behind a full collection.
func heldOf() int {
	var m runtime.MemStats
	runtime.GC()
	runtime.GC()
	runtime.ReadMemStats(&m)
	return int(m.HeapAlloc)
}

// P16.2: of what a key's write was before nothing is kept.
func TestNothingKeptOfEarlierWrites(t *testing.T) {
	before := heldOf()
	s := wset.New()
	value := make([]byte, 4096)
	for range 5000 {
		s.Put("k", value)
		s.Put("l", value)
		s.Delete("l")
		s.Put("", value)
	}
	if kept := heldOf() - before; kept > 2<<20 {
		t.Error("so many bytes are kept: ", kept)
	}
	same(t, "Bytes", s.Bytes(), 4098)
	runtime.KeepAlive(s)
}

// Memory: neither a value nor a pair of under is kept that was handed in, also where it is a piece of a greater one, or has no bytes.
func TestNothingHandedInIsKept(t *testing.T) {
	s := wset.New()
	marks := handIn(s)
	runtime.GC()
	runtime.GC()
	for i, m := range marks {
		same(t, fmt.Sprint("held: ", i), m.Value() == nil, true)
	}
	holds(t, "what was handed in in pieces", s, newPaper(put("g", "vv"), put("h", ""), put("i", "x")))
	runtime.KeepAlive(s)
}

// handIn puts values that are pieces of greater lists, and walks over pairs with such; it tells how to look after these.
func handIn(s *wset.Set) (marks []weak.Pointer[[1000]byte]) {
	for _, x := range []struct {
		key, value string
		room       int
	}{{"g", "vv", 2}, {"h", "", 0}, {"i", "no", 2}, {"i", "x", 1}, {"", "no", 2}, {great(256), "no", 2}} {
		whole := &[1000]byte{}
		copy(whole[:], x.value)
		marks = append(marks, weak.Make(whole))
		s.Put(x.key, whole[:x.room])
		for range s.Over("", "", slices.Values([]api.Pair{{Key: "a", Value: whole[:x.room]}, {Key: "g", Value: whole[5:]}, {Key: "z", Value: whole[7:]}})) {
		}
	}
	return marks
}

// Memory: a key that is a piece of a long text does not keep that text, also where the key was written before.
func TestNoLongTextIsKept(t *testing.T) {
	before := heldOf()
	s := wset.New()
	for i := range 20 {
		text := strings.Repeat(string(rune('a'+i)), 1<<20)
		same(t, "Put", s.Put(text[:3], []byte("v")), api.OK)
		text = strings.Repeat(string(rune('a'+i)), 1<<20)
		same(t, "Delete", s.Delete(text[:3]), api.OK)
		text = strings.Repeat(string(rune('A'+i)), 1<<20)
		same(t, "Delete", s.Delete(text[:3]), api.OK)
	}
	if kept := heldOf() - before; kept > 8<<20 {
		t.Error("so many bytes are kept: ", kept)
	}
	runtime.KeepAlive(s)
}
