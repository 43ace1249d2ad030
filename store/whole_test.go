package store_test

import (
	"fmt"
	"math"
	"testing"

	"cloister/api"
	"cloister/store"
)

// P14.7: at every horizon of small and far stamps, once and again; also what is taken behind it.
func TestVacuum(t *testing.T) {
	for _, h := range []int{math.MinInt, math.MinInt + 1, -1 << 62, -1, 0, 1, 2, 3, 4, 5, 6, 7, 8, 9, 10, 1<<62 - 1, 1 << 62, 1<<62 + 1, math.MaxInt} {
		s, p := stored(t, few()...), newPaper(few()...)
		what := fmt.Sprint("Vacuum ", h)
		same(t, what, s.Vacuum(h), p.vacuum(h))
		holds(t, what, s, p)
		same(t, what+" again", s.Vacuum(h), 0)
		holds(t, what+" again", s, p)
		for _, key := range p.keys() {
			newest, _ := p.newest(key)
			for _, f := range []fact{put(key, newest, "x"), put(key, newest+1, "x"), gone(key, newest+2), put(key, h, "y")} {
				same(t, what+": Apply", s.Apply(versionOf(f)), p.apply(f))
			}
		}
		holds(t, what+", and Applies", s, p)
		same(t, what+" behind Applies", s.Vacuum(h), p.vacuum(h))
		same(t, what+", more", s.Vacuum(math.MaxInt), p.vacuum(math.MaxInt))
		holds(t, what+", more", s, p)
	}
}

// P14.7: of one key with each set of small stamps, dead or not, at each horizon.
func TestVacuumOfAKey(t *testing.T) {
	for bits := range 1 << 6 {
		for h := -2; h < 8; h++ {
			s, p := store.New(), newPaper()
			for i := range 6 {
				if bits>>i&1 == 1 {
					f := fact{key: "k", stamp: i, dead: bits*(i+3)%5 < 2}
					same(t, "Apply", s.Apply(versionOf(f)), p.apply(f))
				}
			}
			same(t, "Vacuum", s.Vacuum(h), p.vacuum(h))
			holds(t, fmt.Sprint(bits, " vacuumed at ", h), s, p)
		}
	}
}

// P14.7: how many were taken away of all keys together; each key by its own stamps.
func TestVacuumCounts(t *testing.T) {
	s := store.New()
	for k := range 30 {
		for stamp := range k + 1 {
			same(t, "Apply", s.Apply(versionOf(put(fmt.Sprint(k), 2*stamp, "v"))), api.OK)
		}
	}
	want := 0 // of the key k: those of the stamps 0 to 2*min(k, 5) but the last one
	for k := range 30 {
		want += min(k, 5)
	}
	same(t, "Vacuum", s.Vacuum(11), want)
	k, n := s.Len()
	same(t, "keys", k, 30)
	same(t, "versions", n, 465-want)
	same(t, "the rest", s.Vacuum(math.MaxInt), 465-want-30)
}

// P14.7, P14.9: a key whose newest version is dead stays, as a dead version.
func TestVacuumKeepsTheDead(t *testing.T) {
	s := stored(t, put("k", 1, "a"), gone("k", 2))
	same(t, "Vacuum", s.Vacuum(9), 1)
	holds(t, "a dead version alone", s, newPaper(gone("k", 2)))
	same(t, "Vacuum", s.Vacuum(math.MaxInt), 0)
	k, n := s.Len()
	same(t, "keys", k, 1)
	same(t, "versions", n, 1)
	same(t, "Apply at its stamp", s.Apply(versionOf(put("k", 2, ""))), api.ErrStamp)
}

// P14.8, P14.9: what is live, and how many keys and versions there are, from call to call.
func TestLiveAndLen(t *testing.T) {
	s := store.New()
	rows := []struct {
		f                    fact
		live, keys, versions int
	}{
		{put("ab", 1, "xyz"), 5, 1, 1},
		{put("c", 1, ""), 6, 2, 2},
		{put("ab", 2, ""), 3, 2, 3},
		{gone("c", 2), 2, 2, 4},
		{gone("d", 2), 2, 3, 5},
		{put("d", 3, "12345"), 8, 3, 6},
		{gone("ab", 3), 6, 3, 7},
		{gone("ab", 4), 6, 3, 8},
		{put("ab", 5, "x"), 9, 3, 9},
		{gone("d", 4), 3, 3, 10},
		{gone("ab", 6), 0, 3, 11},
		{put(great(255), 0, great(4096)), 4351, 4, 12},
	}
	for _, x := range rows {
		same(t, "Apply", s.Apply(versionOf(x.f)), api.OK)
		same(t, "Apply refused", s.Apply(versionOf(x.f)), api.ErrStamp)
		sameSizes(t, fmt.Sprintf("behind %.40s", fmt.Sprint(x.f)), s, x.live, x.keys, x.versions)
	}
	for i, left := range []int{12, 12, 10, 8, 6, 5, 4, 4} {
		s.Vacuum(i)
		sameSizes(t, fmt.Sprint("Vacuum ", i), s, 4351, 4, left)
	}
}

func sameSizes(t *testing.T, what string, s *store.Store, live, keys, versions int) {
	t.Helper()
	same(t, what+": Live", s.Live(), live)
	k, n := s.Len()
	same(t, what+": keys", k, keys)
	same(t, what+": versions", n, versions)
}

// P14.10: by key, and of one key by stamp, rising, in whichever order they came.
func TestVersions(t *testing.T) {
	s := stored(t, put("b", 5, "1"), put("a\x00", 9, "2"), put("b", 7, "3"), gone("a", 6), put("b", 100, ""), put("\xff", 0, "4"), put("a", 1<<62, "5"), put("aa", 2, "6"), gone("b", 101))
	want := []fact{gone("a", 6), put("a", 1<<62, "5"), put("a\x00", 9, "2"), put("aa", 2, "6"), put("b", 5, "1"), put("b", 7, "3"), put("b", 100, ""), gone("b", 101), put("\xff", 0, "4")}
	for range 20 {
		sameList(t, "Versions", factsOf(s.Versions()), want)
	}
	same(t, "Vacuum", s.Vacuum(100), 2)
	sameList(t, "Versions behind Vacuum", factsOf(s.Versions()), append(append([]fact(nil), want[:4]...), want[6:]...))
}
