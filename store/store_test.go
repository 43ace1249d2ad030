package store_test

import (
	"fmt"
	"math"
	"math/rand"
	"testing"

	"cloister/api"
	"cloister/store"
)

// P14.1: a new store holds nothing.
func TestNew(t *testing.T) {
	s := store.New()
	if s == nil {
		t.Fatal("New: no store")
	}
	holds(t, "a new store", s, newPaper())
	for _, h := range []int{math.MinInt, -1, 0, 9, math.MaxInt} {
		same(t, "Vacuum", s.Vacuum(h), 0)
	}
	holds(t, "a new store, vacuumed", s, newPaper())
}

// P14.1: stores know nothing of each other, called in turns.
func TestApart(t *testing.T) {
	r := rand.New(rand.NewSource(141))
	var stores []*store.Store
	papers := make([]paper, 4)
	for range papers {
		stores = append(stores, store.New())
	}
	for i := range 1200 {
		at := r.Intn(len(stores))
		step(t, r, 6, stores[at], &papers[at])
		if i%60 == 0 {
			for at := range stores {
				holds(t, fmt.Sprint("the store ", at), stores[at], &papers[at])
			}
		}
	}
}

// P14.2: each version that may be is held, behind whatever others.
func TestApply(t *testing.T) {
	s, p := store.New(), newPaper()
	for i, f := range few() {
		same(t, fmt.Sprintf("Apply %#v", f), s.Apply(versionOf(f)), p.apply(f))
		holds(t, fmt.Sprint("Apply ", i), s, p)
	}
	same(t, "all were taken", len(p.held), len(few()))
}

// P14.2: what is refused, at the edges, by a store that is empty and by one that is not; nothing has changed.
func TestApplyRefuses(t *testing.T) {
	rows := []struct {
		f    fact
		want api.Errno
	}{
		{put("", 1, ""), api.ErrKey},
		{gone("", 1), api.ErrKey},
		{put(great(256), 1, ""), api.ErrKey},
		{gone(great(257), 1), api.ErrKey},
		{put("new", 1, great(4097)), api.ErrValue},
		{put("new", 1, great(5000)), api.ErrValue},
		{fact{"new", 1, "\x00", true}, api.ErrValue},
		{fact{"new", 1, great(4096), true}, api.ErrValue},
		{fact{"new", 1, great(4097), true}, api.ErrValue},
		{put("new", -1, ""), api.ErrArg},
		{put("new", math.MinInt, "a"), api.ErrArg},
		{put("new", 1<<62+1, ""), api.ErrArg},
		{put("new", math.MaxInt, ""), api.ErrArg},
		{gone("new", -1), api.ErrArg},
		{gone("new", 1<<62+1), api.ErrArg},
		{put("b", -1, ""), api.ErrArg},
	}
	for _, held := range [][]fact{nil, few()} {
		s, p := stored(t, held...), newPaper(held...)
		for _, x := range rows {
			same(t, fmt.Sprintf("Apply %.60s", fmt.Sprint(x.f)), s.Apply(versionOf(x.f)), x.want)
			holds(t, "behind a refusal", s, p)
		}
	}
}

// P14.2: the edges that may be.
func TestApplyTakes(t *testing.T) {
	for _, f := range []fact{
		put("\x00", 0, ""), put("k", 0, great(4096)), put(great(255), 1<<62, great(4096)), put("k", 1<<62, ""),
		gone("k", 0), gone("\xff", 1<<62), put("k", 1<<62-1, "a"), put("a b", 5, "\xff\xfe"),
	} {
		s := stored(t, f)
		holds(t, fmt.Sprintf("Apply %.60s", fmt.Sprint(f)), s, newPaper(f))
	}
}

// P14.2: of the errors the first one is told: all pairs of faults.
func TestApplyOrder(t *testing.T) {
	s, p := stored(t, few()...), newPaper(few()...)
	keys := []string{"", great(256), "b", "\xff", "new"}
	values := []string{"", "v", great(4096), great(4097)}
	stamps := []int{math.MinInt, -1, 0, 2, 6, 7, 8, 1 << 62, 1<<62 + 1, math.MaxInt}
	for _, key := range keys {
		for _, value := range values {
			for _, stamp := range stamps {
				for _, dead := range []bool{false, true} {
					f := fact{key, stamp, value, dead}
					want := (&paper{append([]fact(nil), p.held...)}).apply(f)
					if want == api.OK {
						continue
					}
					same(t, fmt.Sprintf("Apply %.60s", fmt.Sprint(f)), s.Apply(versionOf(f)), want)
				}
			}
		}
	}
	holds(t, "behind all refusals", s, p)
	same(t, "no key before no value", s.Apply(versionOf(put("", -1, great(4097)))), api.ErrKey)
	same(t, "no value before no stamp", s.Apply(versionOf(put("b", -1, great(4097)))), api.ErrValue)
	same(t, "a dead one's value before a stamp that is not above", s.Apply(versionOf(fact{"b", 7, "v", true})), api.ErrValue)
	same(t, "a stamp that is not above", s.Apply(versionOf(put("b", 7, "v"))), api.ErrStamp)
}

// P14.2: a stamp below, at and above the key's last one, dead or not; another key's stamps do not matter.
func TestApplyStamps(t *testing.T) {
	for _, last := range []fact{put("k", 5, "v"), gone("k", 5)} {
		for stamp := range 9 {
			for _, dead := range []bool{false, true} {
				s, p := stored(t, put("k", 3, "u"), last, put("j", 8, ""), put("l", 0, "")), newPaper(put("k", 3, "u"), last, put("j", 8, ""), put("l", 0, ""))
				want := api.OK
				if stamp <= 5 {
					want = api.ErrStamp
				}
				f := fact{key: "k", stamp: stamp, dead: dead}
				same(t, fmt.Sprint("Apply ", f), s.Apply(versionOf(f)), want)
				p.apply(f)
				holds(t, fmt.Sprint("behind Apply ", f), s, p)
				other := put("m", stamp, "w")
				same(t, "another key", s.Apply(versionOf(other)), api.OK)
				p.apply(other)
				holds(t, "behind another key", s, p)
			}
		}
	}
}

// P14.2: a store in which nothing is held but a stamp of 0 holds that one.
func TestApplyNought(t *testing.T) {
	s := stored(t, gone("k", 0))
	same(t, "0 again", s.Apply(versionOf(put("k", 0, ""))), api.ErrStamp)
	same(t, "1", s.Apply(versionOf(put("k", 1, ""))), api.OK)
	holds(t, "behind them", s, newPaper(gone("k", 0), put("k", 1, "")))
}

// P14.3: Load is Apply of each version in their order.
func TestLoad(t *testing.T) {
	for n := range len(few()) + 1 {
		facts := few()[:n]
		s, code := store.Load(versionsOf(facts))
		same(t, "Load", code, api.OK)
		if s == nil {
			t.Fatal("Load: no store")
		}
		p := newPaper(facts...)
		holds(t, fmt.Sprint("Load of ", n), s, p)
		next := put("b", 100, "more")
		same(t, "Apply", s.Apply(versionOf(next)), p.apply(next))
		same(t, "Vacuum", s.Vacuum(5), p.vacuum(5))
		holds(t, "what was loaded goes on", s, p)
	}
	for _, none := range [][]api.Version{nil, {}} {
		s, code := store.Load(none)
		same(t, "Load of nothing", code, api.OK)
		holds(t, "Load of nothing", s, newPaper())
	}
}

// P14.3: versions in any order of their keys; of one key they must rise.
func TestLoadOrders(t *testing.T) {
	r := rand.New(rand.NewSource(143))
	for range 300 {
		facts := few()
		r.Shuffle(len(facts), func(i, j int) { facts[i], facts[j] = facts[j], facts[i] })
		p, want := newPaper(), api.OK
		for _, f := range facts {
			if want = p.apply(f); want != api.OK {
				break
			}
		}
		s, code := store.Load(versionsOf(facts))
		same(t, "Load", code, want)
		same(t, "a store", s != nil, want == api.OK)
		if want == api.OK {
			holds(t, "Load", s, p)
		}
	}
}

// P14.3: the first error, wherever it stands, and no store.
func TestLoadRefuses(t *testing.T) {
	wrong := map[api.Errno]fact{api.ErrKey: put("", 1, ""), api.ErrValue: put("n", 1, great(4097)), api.ErrArg: put("n", -1, ""), api.ErrStamp: put("b", 7, "")}
	for want, f := range wrong {
		for at := range len(few()) + 1 {
			if want == api.ErrStamp && at < 5 {
				continue // "b" 7 is not there yet
			}
			facts := append(append(append([]fact(nil), few()[:at]...), f), few()[at:]...)
			s, code := store.Load(versionsOf(facts))
			same(t, "Load", code, want)
			same(t, "no store", s == nil, true)
			for _, behind := range wrong {
				s, code := store.Load(versionsOf(append(append([]fact(nil), facts...), behind)))
				same(t, "the first one is told", code, want)
				same(t, "no store", s == nil, true)
			}
		}
	}
	s, code := store.Load(versionsOf([]fact{put("k", 2, ""), put("k", 2, "")}))
	same(t, "one stamp twice", code, api.ErrStamp)
	same(t, "no store", s == nil, true)
}

// P14.4: below, at, between and above the stamps of a key, at the ends of the ints.
func TestGet(t *testing.T) {
	s := stored(t, put("k", 0, "a"), put("k", 3, ""), gone("k", 6), put("k", 8, "b"), put("j", 2, "no"), put("l", 4, "no"))
	rows := []struct {
		stamps []int
		want   string
		is     bool
	}{
		{[]int{math.MinInt, math.MinInt + 1, -1 << 62, -2, -1}, "", false},
		{[]int{0, 1, 2}, "a", true},
		{[]int{3, 4, 5}, "", true},
		{[]int{6, 7}, "", false},
		{[]int{8, 9, 1 << 32, 1 << 62, 1<<62 + 1, math.MaxInt - 1, math.MaxInt}, "b", true},
	}
	for _, x := range rows {
		for _, stamp := range x.stamps {
			b, is := s.Get("k", stamp)
			if string(b) != x.want || is != x.is {
				t.Errorf("Get at %d: got %q %v, want %q %v", stamp, b, is, x.want, x.is)
			}
		}
	}
}

// P14.4, P14.5: keys that are not there, or are none, though others are like them.
func TestKeysThatAreNotThere(t *testing.T) {
	s := stored(t, put("ab", 1, "v"), gone("d", 1))
	for _, key := range []string{"", "a", "abc", "b", "AB", "ab\x00", "\x00", "\xff", great(255), great(256), great(10000)} {
		for _, stamp := range []int{math.MinInt, -1, 0, 1, 2, math.MaxInt} {
			b, is := s.Get(key, stamp)
			same(t, "Get", is || len(b) > 0, false)
		}
		n, is := s.Newest(key)
		same(t, "Newest", n, 0)
		same(t, "Newest is there", is, false)
	}
	b, is := s.Get("d", 9)
	same(t, "a dead one", is || len(b) > 0, false)
}

// P14.5: the newest stamp, also of a dead version and at 0; it goes with each Apply that is taken.
func TestNewest(t *testing.T) {
	s := store.New()
	for _, f := range []fact{put("k", 0, ""), gone("k", 2), put("k", 3, "a"), gone("k", 1<<62)} {
		same(t, "Apply", s.Apply(versionOf(f)), api.OK)
		same(t, "Apply refused", s.Apply(versionOf(f)), api.ErrStamp)
		n, is := s.Newest("k")
		same(t, "Newest", n, f.stamp)
		same(t, "Newest is there", is, true)
		s.Vacuum(math.MaxInt)
		n, is = s.Newest("k")
		same(t, "Newest behind Vacuum", n, f.stamp)
		same(t, "Newest is there behind Vacuum", is, true)
	}
}

// P14.11, the order of errors: each call of a store that is not there.
func TestNone(t *testing.T) {
	var none *store.Store
	for range 2 {
		for _, f := range append(few(), put("", 1, ""), put("k", -1, ""), fact{"k", 1, "v", true}, put("k", 1, great(4097))) {
			same(t, "Apply", none.Apply(versionOf(f)), api.ErrNil)
		}
		for _, h := range []int{math.MinInt, -1, 0, 9, math.MaxInt} {
			same(t, "Vacuum", none.Vacuum(h), 0)
		}
		holds(t, "none", none, newPaper())
		for _, from := range []string{"", "a", great(256)} {
			for _, to := range []string{"", "z", "\xff"} {
				all := none.Scan(from, to, 9)
				if all == nil {
					t.Fatal("Scan of none is no walk")
				}
				for p := range all {
					t.Error("a walk through nothing: ", p)
				}
			}
		}
	}
}
