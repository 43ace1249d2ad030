package store_test

import (
	"fmt"
	"math"
	"math/rand"
	"runtime"
	"strings"
	"testing"
	"weak"

	"cloister/api"
	"cloister/store"
)

// P14.2 to P14.10: over rows of calls by chance, now leaning to Applies and now to Vacuums, a store is what the chapter's words say.
func TestRowsOfCalls(t *testing.T) {
	r := rand.New(rand.NewSource(14))
	for range 20 {
		s, p := store.New(), newPaper()
		for i := range 240 {
			step(t, r, 4+i/60%4, s, p)
			if i%12 == 0 {
				holds(t, "in the midst of a row of calls", s, p)
			}
		}
		if t.Failed() {
			return
		}
	}
}

// chanced is a store behind some calls by chance, and its paper.
func chanced(t *testing.T, r *rand.Rand, calls int) (*store.Store, *paper) {
	t.Helper()
	s, p := store.New(), newPaper()
	for range calls {
		step(t, r, 7, s, p)
	}
	return s, p
}

// P14.12: behind a Vacuum nothing is seen at or above its horizon; a second one, and one below it, take nothing away.
func TestVacuumIsNotSeenFromAbove(t *testing.T) {
	r := rand.New(rand.NewSource(1412))
	for range 60 {
		s, p := chanced(t, r, 120)
		h := r.Intn(14) - 1
		keys, _ := s.Len()
		live := s.Live()
		s.Vacuum(h)
		for stamp := h; stamp < h+25; stamp++ {
			sameList(t, "Scan", scanned(t, s, "", "", stamp), p.scan("", "", stamp))
			for _, key := range someKeys {
				sameGet(t, "Get", s, p, key, stamp)
			}
		}
		for _, key := range someKeys {
			sameNewest(t, "Newest", s, p, key)
		}
		same(t, "Live", s.Live(), live)
		k, _ := s.Len()
		same(t, "keys", k, keys)
		for _, less := range []int{h, h - 1, 0, -1, math.MinInt} {
			if less <= h {
				same(t, "a second Vacuum", s.Vacuum(less), 0)
			}
		}
		for _, key := range someKeys {
			for stamp := h - 3; stamp < h+20; stamp++ {
				f := put(key, stamp, "x")
				same(t, "Apply", s.Apply(versionOf(f)), p.apply(f))
			}
		}
		if t.Failed() {
			return
		}
	}
}

// P14.13: Load of Versions is a store that answers all as this one does, from then on too.
func TestThereAndBack(t *testing.T) {
	r := rand.New(rand.NewSource(1413))
	for range 30 {
		s, p := chanced(t, r, r.Intn(150))
		twin, code := store.Load(s.Versions())
		same(t, "Load", code, api.OK)
		holds(t, "Load of Versions", twin, p)
		q := newPaper(p.held...)
		for range 40 {
			step(t, r, 5, twin, q)
		}
		holds(t, "the twin goes on", twin, q)
		holds(t, "the store does not", s, p)
	}
}

// P14.14: Apply of a version with the stamp s changes nothing below s.
func TestLaterOnesAreNotSeen(t *testing.T) {
	r := rand.New(rand.NewSource(1414))
	for range 60 {
		s, p := chanced(t, r, 80)
		before := newPaper(p.held...)
		key := someKeys[r.Intn(len(someKeys))]
		newest, _ := p.newest(key)
		f := fact{key: key, stamp: newest + 1 + r.Intn(4), dead: r.Intn(2) == 0}
		same(t, "Apply", s.Apply(versionOf(f)), api.OK)
		for stamp := -1; stamp < f.stamp; stamp++ {
			sameList(t, "Scan below", scanned(t, s, "", "", stamp), before.scan("", "", stamp))
			for _, key := range someKeys {
				sameGet(t, "Get below", s, before, key, stamp)
			}
		}
	}
}

// P14.15: a scan tells a key just if Get finds it, with the same value.
func TestAScanIsTheGets(t *testing.T) {
	r := rand.New(rand.NewSource(1415))
	for range 40 {
		s, _ := chanced(t, r, 150)
		for stamp := -1; stamp < 40; stamp += 3 {
			told := map[string]string{}
			for _, x := range scanned(t, s, "", "", stamp) {
				told[x.key] = x.value
			}
			for _, key := range someKeys {
				b, is := s.Get(key, stamp)
				value, there := told[key]
				same(t, "is told", there, is)
				same(t, "the value", value, string(b))
			}
		}
	}
}

// P14.15: Scan from a to b, and then from b to c, is Scan from a to c.
func TestAScanIsMadeOfParts(t *testing.T) {
	s := stored(t, few()...)
	for _, a := range bounds() {
		for _, b := range bounds() {
			for _, c := range bounds() {
				if a > b || b > c || b == "" || c == "" {
					continue
				}
				for _, stamp := range []int{0, 4, 9} {
					parts := append(scanned(t, s, a, b, stamp), scanned(t, s, b, c, stamp)...)
					sameList(t, fmt.Sprintf("%.20q %.20q %.20q", a, b, c), parts, scanned(t, s, a, c, stamp))
				}
			}
		}
	}
}

// P14.16: what is told of a key is what a store tells that was given the versions of that key alone, and the same Vacuums.
func TestKeysApart(t *testing.T) {
	r := rand.New(rand.NewSource(1416))
	for range 10 {
		s := store.New()
		alone := map[string]*store.Store{}
		for _, key := range someKeys {
			alone[key] = store.New()
		}
		for i := range 300 {
			if i%25 == 24 {
				h := r.Intn(30)
				s.Vacuum(h)
				for _, one := range alone {
					one.Vacuum(h)
				}
				continue
			}
			key := someKeys[r.Intn(len(someKeys))]
			n, _ := s.Newest(key)
			f := fact{key: key, stamp: n + r.Intn(4), dead: r.Intn(4) == 0}
			same(t, "Apply", s.Apply(versionOf(f)), alone[key].Apply(versionOf(f)))
		}
		var all []fact
		for _, key := range (&paper{factsOf(s.Versions())}).keys() {
			all = append(all, factsOf(alone[key].Versions())...)
		}
		sameList(t, "Versions", factsOf(s.Versions()), all)
		for key, one := range alone {
			sameNewest(t, key, s, newPaper(factsOf(one.Versions())...), key)
			for stamp := -1; stamp < 60; stamp += 2 {
				sameGet(t, key, s, newPaper(factsOf(one.Versions())...), key, stamp)
				sameList(t, key, scanned(t, s, key, key+"\x00", stamp), scanned(t, one, "", "", stamp))
			}
		}
	}
}

// P14.7, P14.12: many versions and keys, at once.
func TestMany(t *testing.T) {
	const keys, each = 1500, 20
	s := store.New()
	for stamp := range each {
		for k := range keys {
			if s.Apply(versionOf(put(fmt.Sprintf("%05d", k*7%keys), stamp, fmt.Sprint(stamp)))) != api.OK {
				t.Fatal("Apply of ", k, stamp)
			}
		}
	}
	sameSizes(t, "many", s, keys*7, keys, keys*each)
	got := scanned(t, s, "00100", "00200", 11)
	same(t, "a part", len(got), 100)
	for i, x := range got {
		same(t, "a pair", x, pair{fmt.Sprintf("%05d", 100+i), "11"})
	}
	same(t, "Vacuum", s.Vacuum(11), keys*11)
	sameList(t, "behind Vacuum", scanned(t, s, "00100", "00200", 11), got)
	same(t, "nothing below", len(scanned(t, s, "", "", 10)), 0)
	l := s.Versions()
	same(t, "Versions", len(l), keys*(each-11))
	same(t, "the last one", fmt.Sprint(l[len(l)-1].Key, l[len(l)-1].Stamp), "0149919")
}

// heldOf is how many bytes of memory are held on to behind a full collection.
func heldOf() int {
	var m runtime.MemStats
	runtime.GC()
	runtime.GC()
	runtime.ReadMemStats(&m)
	return int(m.HeapAlloc)
}

// P14.7: of what was taken away nothing is kept, also behind walks that were left.
func TestNothingKeptBehindVacuum(t *testing.T) {
	s := store.New()
	for stamp := range 2000 {
		s.Apply(versionOf(put("k", stamp, great(4096))))
	}
	all := s.Scan("", "", 5)
	for range all {
		break
	}
	full := heldOf()
	same(t, "Vacuum", s.Vacuum(1990), 1990)
	if freed := full - heldOf(); freed < 1900*4096 {
		t.Error("only so many bytes were given up: ", freed)
	}
	runtime.KeepAlive(s)
	runtime.KeepAlive(all)
}

// Memory: neither a value nor a text is kept that was handed in, also where it is a piece of a greater one, or has no bytes.
func TestNothingHandedInIsKept(t *testing.T) {
	s := store.New()
	marks := handIn(t, s)
	runtime.GC()
	runtime.GC()
	for i, m := range marks {
		same(t, fmt.Sprint("held: ", i), m.Value() == nil, true)
	}
	holds(t, "what was handed in in pieces", s, newPaper(put("gggg", 1, "vv"), put("h", 1, ""), put("h", 2, "x"), gone("i", 1)))
	runtime.KeepAlive(s)
}

// handIn applies versions whose values are pieces of greater lists, and tells how to look after these.
func handIn(t *testing.T, s *store.Store) (marks []weak.Pointer[[1000]byte]) {
	for _, x := range []struct {
		f    fact
		room int
	}{{put("gggg", 1, "vv"), 2}, {put("h", 1, ""), 0}, {put("h", 2, "x"), 1}, {gone("i", 1), 0}, {put("h", 2, "no"), 2}, {put("", 2, "no"), 2}} {
		whole := &[1000]byte{}
		copy(whole[:], x.f.value)
		marks = append(marks, weak.Make(whole))
		s.Apply(api.Version{Key: x.f.key, Stamp: x.f.stamp, Value: whole[:x.room], Dead: x.f.dead})
	}
	return marks
}

// Memory: a key that is a piece of a long text does not keep that text.
func TestNoLongTextIsKept(t *testing.T) {
	before := heldOf()
	s := store.New()
	for i := range 20 {
		text := strings.Repeat(string(rune('a'+i)), 1<<20)
		same(t, "Apply", s.Apply(versionOf(put(text[:3], 1, "v"))), api.OK)
	}
	if kept := heldOf() - before; kept > 8<<20 {
		t.Error("so many bytes are kept: ", kept)
	}
	runtime.KeepAlive(s)
}
