package store_test

import (
	"fmt"
	"math"
	"math/rand"
	"sort"
	"testing"

	"cloister/api"
	"cloister/store"
)

// bounds is texts from and to which is scanned: keys, texts beside them, and such as are too long for a key.
func bounds() []string {
	all := []string{"", "\x00", "a", "a\x00", "a\x00\x00", "a\x01", "aa", "aaa", "ab", "b", "b\x00", "bb", "c", "cc", "d", "e", "ggg", "z", "\x80", "\xff", "\xff\x00", "\xff\xff"}
	return append(all, great(254), great(255), great(256), great(300))
}

// P14.6: from and to every bound, at every stamp.
func TestScan(t *testing.T) {
	s, p := stored(t, few()...), newPaper(few()...)
	for _, from := range bounds() {
		for _, to := range bounds() {
			for _, stamp := range []int{math.MinInt, -1, 0, 1, 2, 3, 4, 5, 6, 7, 8, 9, 1 << 62, math.MaxInt} {
				sameList(t, fmt.Sprintf("Scan(%.20q, %.20q, %d)", from, to, stamp), scanned(t, s, from, to, stamp), p.scan(from, to, stamp))
			}
		}
	}
	holds(t, "behind scans", s, p)
}

// P14.6: keys are told as they rise byte by byte, in whichever order they came, and however many they are.
func TestScanRises(t *testing.T) {
	r := rand.New(rand.NewSource(146))
	for _, n := range []int{1, 2, 3, 8, 9, 40, 500} {
		for range 5 {
			s, once := store.New(), map[string]int{}
			for len(once) < n {
				b := make([]byte, 1+r.Intn(3))
				for i := range b {
					b[i] = byte(r.Intn(256))
				}
				if once[string(b)] == 0 {
					once[string(b)] = 1
					same(t, "Apply", s.Apply(api.Version{Key: string(b), Stamp: r.Intn(9), Value: b}), api.OK)
				}
			}
			var want []pair
			for key := range once {
				want = append(want, pair{key, key})
			}
			sort.Slice(want, func(i, j int) bool { return want[i].key < want[j].key })
			for range 3 {
				sameList(t, "Scan", scanned(t, s, "", "", 9), want)
			}
		}
	}
}

// P14.6: a to that is empty bounds nothing; a from that is empty neither; from above to, and at to, tell nothing.
func TestScanBounds(t *testing.T) {
	s := stored(t, put("a", 1, "1"), put("b", 1, "2"), put("c", 1, "3"), put("\xff", 1, "4"))
	rows := []struct{ from, to, want string }{
		{"", "", "[{a 1} {b 2} {c 3} {\xff 4}]"},
		{"a", "", "[{a 1} {b 2} {c 3} {\xff 4}]"},
		{"a\x00", "", "[{b 2} {c 3} {\xff 4}]"},
		{"b", "c", "[{b 2}]"},
		{"b", "c\x00", "[{b 2} {c 3}]"},
		{"", "a", "[]"},
		{"", "a\x00", "[{a 1}]"},
		{"", "\xff", "[{a 1} {b 2} {c 3}]"},
		{"", "\xff\x00", "[{a 1} {b 2} {c 3} {\xff 4}]"},
		{"\xff", "", "[{\xff 4}]"},
		{"\xff\x00", "", "[]"},
		{"b", "b", "[]"},
		{"c", "b", "[]"},
		{"\xff", "a", "[]"},
	}
	for _, x := range rows {
		same(t, fmt.Sprintf("Scan(%q, %q)", x.from, x.to), fmt.Sprint(scanned(t, s, x.from, x.to, 1)), x.want)
	}
}

// P14.6: a walk may be left early, at every pair, and gone through again.
func TestScanLeft(t *testing.T) {
	s, p := stored(t, few()...), newPaper(few()...)
	for _, stamp := range []int{-1, 2, 4, 9} {
		want := p.scan("", "", stamp)
		all := s.Scan("", "", stamp)
		for most := range len(want) + 2 {
			var got []pair
			for x := range all {
				got = append(got, pair{x.Key, string(x.Value)})
				if len(got) >= most {
					break
				}
			}
			sameList(t, "left early", got, want[:min(max(most, 1), len(want))])
		}
		for range 2 {
			var got []pair
			all(func(x api.Pair) bool { got = append(got, pair{x.Key, string(x.Value)}); return true })
			sameList(t, "gone through again", got, want)
		}
	}
	holds(t, "behind walks", s, p)
}

// P14.6: behind the one who leaves nothing more is told.
func TestScanToldNoMore(t *testing.T) {
	s := stored(t, few()...)
	for most := 1; most < 5; most++ {
		told := 0
		s.Scan("", "", 4)(func(api.Pair) bool { told++; return told < most })
		same(t, "told", told, most)
	}
}

// P14.6: what is answered goes each time by the store as it is when the walk begins, not by what it was when Scan was called.
func TestScanAsItIsAtTheBeginning(t *testing.T) {
	s, p := store.New(), newPaper()
	all, part := s.Scan("", "", 6), s.Scan("a\x00", "c", 3)
	told := func(walk func(func(api.Pair) bool)) (got []pair) {
		for x := range walk {
			got = append(got, pair{x.Key, string(x.Value)})
		}
		return got
	}
	for _, f := range few() {
		s.Apply(versionOf(f))
		p.apply(f)
		sameList(t, "all", told(all), p.scan("", "", 6))
		sameList(t, "a part", told(part), p.scan("a\x00", "c", 3))
	}
	for h := range 12 {
		same(t, "Vacuum", s.Vacuum(h), p.vacuum(h))
		sameList(t, "all, vacuumed", told(all), p.scan("", "", 6))
		sameList(t, "a part, vacuumed", told(part), p.scan("a\x00", "c", 3))
	}
}

// changes is what becomes of a store in the midst of a walk.
func changes() map[string]func(s *store.Store, i int) {
	return map[string]func(s *store.Store, i int){
		"a key behind all":     func(s *store.Store, i int) { s.Apply(versionOf(put("\xff\xff", 100+i, "new"))) },
		"a key ahead of all":   func(s *store.Store, i int) { s.Apply(versionOf(put("\x00", 100+i, "new"))) },
		"a key between":        func(s *store.Store, i int) { s.Apply(versionOf(put(fmt.Sprint("b", i), 0, "new"))) },
		"many keys":            func(s *store.Store, i int) { many(s, i) },
		"a version each":       func(s *store.Store, i int) { each(s, put("", 1000+i, "new")) },
		"a dead version each":  func(s *store.Store, i int) { each(s, gone("", 1000+i)) },
		"vacuumed":             func(s *store.Store, i int) { s.Vacuum(5 + i) },
		"vacuumed to the last": func(s *store.Store, i int) { s.Vacuum(math.MaxInt) },
		"all of them": func(s *store.Store, i int) {
			each(s, put("", 1000+2*i, "new"))
			s.Vacuum(math.MaxInt)
			each(s, gone("", 1001+2*i))
			many(s, i)
		},
		"refused": func(s *store.Store, i int) { s.Apply(versionOf(put("b", 0, "no"))); s.Vacuum(-1) },
	}
}

// each applies a version to each key of a store.
func each(s *store.Store, f fact) {
	for _, v := range s.Versions() {
		f.key = v.Key
		s.Apply(versionOf(f))
	}
}

// many applies some new keys.
func many(s *store.Store, i int) {
	for j := range 20 {
		s.Apply(versionOf(put(fmt.Sprint(string(rune('a'+j%4)), " ", i, j), 1, "new")))
	}
}

// P14.6: what becomes of the store in the midst of a walk changes nothing of that walk, and all of the next one.
func TestScanWhileItGoesOn(t *testing.T) {
	for what, change := range changes() {
		for _, stamp := range []int{1, 4, 9, 2000} {
			for begin := range 6 {
				s, twin := stored(t, few()...), stored(t, few()...)
				want := newPaper(few()...).scan("", "", stamp)
				all := s.Scan("", "", stamp)
				var got []pair
				for x := range all {
					got = append(got, pair{x.Key, string(x.Value)})
					if len(got) > begin {
						change(s, len(got))
					}
					if len(got) > 100 {
						t.Fatal("a walk without an end: ", what)
					}
				}
				sameList(t, what, got, want)
				for i := begin + 1; i <= len(want); i++ {
					change(twin, i)
				}
				p := newPaper(factsOf(twin.Versions())...)
				holds(t, what+": behind the walk", s, p)
				got = nil
				for x := range all {
					got = append(got, pair{x.Key, string(x.Value)})
				}
				sameList(t, what+": the next walk", got, p.scan("", "", stamp))
			}
		}
	}
}

// P14.6: walks within one another, between which the store goes on, and of which one is left.
func TestScanWithin(t *testing.T) {
	s := stored(t, put("a", 1, "1"), put("b", 1, "2"), put("c", 1, "3"))
	all := s.Scan("", "", 9)
	told := ""
	n := 1
	for x := range all {
		told += x.Key + string(x.Value) + ":"
		for y := range all {
			told += y.Key + string(y.Value)
			if y.Key == "c" {
				break
			}
		}
		n++
		s.Apply(versionOf(gone(string(rune('a'+n-2)), n)))
		s.Apply(versionOf(put("d", n, "4")))
		told += " "
	}
	same(t, "within", told, "a1:a1b2c3 b2:b2c3 c3:c3 ")
	same(t, "behind", fmt.Sprint(scanned(t, s, "", "", 9)), "[{d 4}]")
}

// P14.6: a consumer that gives up by a panic leaves the store as it was.
func TestScanGivenUp(t *testing.T) {
	s := stored(t, few()...)
	func() {
		defer func() { same(t, "given up", recover(), any("enough")) }()
		for range s.Scan("", "", 4) {
			panic("enough")
		}
	}()
	holds(t, "behind a walk that was given up", s, newPaper(few()...))
}
