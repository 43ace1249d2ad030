package txn_test

import (
	"bytes"
	"fmt"
	"iter"
	"math"
	"testing"

	"cloister/api"
	"cloister/store"
	"cloister/txn"
)

// ownPlace is where the transactions of these tests stand in vector: one place below it, one above, one beside, one that is no label's.
const ownPlace = 1

func vector() []int { return []int{4, 7, -1, 0, math.MinInt, 1 << 62} }

// places is those of vector, and such as are none.
func places() []int { return append(far(), 0, 1, 2, 3, 4, 5, 6, 7) }

// horizons is numbers below, at and above those of vector.
func horizons() []int {
	return []int{math.MinInt, -5, -1, 0, 1, 3, 4, 5, 6, 7, 8, 1<<62 - 1, 1 << 62, 1<<62 + 1, math.MaxInt}
}

// P17.3: each of the eight, and which of any two comes first; what the source is asked in each case, and that it is not asked where it need not be.
func TestGet(t *testing.T) {
	keys := append(someKeys(), "", great(256), great(5000))
	for _, ended := range []bool{false, true} {
		m := written(t, ownPlace, vector(), few()...)
		if ended {
			m.end(t)
		}
		s := filled()
		for _, place := range places() {
			for _, key := range keys {
				for _, horizon := range horizons() {
					s.horizon = horizon
					m.sameGet(t, fmt.Sprint("ended ", ended, ", horizon ", horizon), place, key, s)
				}
				m.sameGet(t, fmt.Sprint("ended ", ended, ", no source"), place, key, nil)
			}
		}
		m.holds(t, "behind reads")
	}
}

// P17.3: the version that counts at the number of the place, whatever its other numbers are.
func TestGetAtEachNumber(t *testing.T) {
	s := filled()
	for n := range 12 {
		m := made(t, 0, []int{3, n, 11}, 9)
		for _, key := range someKeys() {
			m.sameGet(t, fmt.Sprint("at ", n), 1, key, s)
		}
	}
}

// P17.3: at its own place it finds its last write, even one without bytes and one that is a Delete, however old the snapshot is; at others nothing of it.
func TestGetOfOwnWrites(t *testing.T) {
	m := made(t, 0, []int{5, 5}, 1000)
	s := shelfOf(version{1, put("k", "there")}, version{2, put("l", "there")})
	for _, horizon := range []int{math.MinInt, 5, 6, math.MaxInt} {
		s.horizon = horizon
		for _, w := range []write{put("k", "v"), gone("k"), put("k", ""), put("k", "w"), gone("k"), gone("k"), put("k", "\x00")} {
			m.do(t, 0, w)
			for place := range 2 {
				for _, key := range []string{"k", "l", "m"} {
					m.sameGet(t, fmt.Sprintf("behind a write %v", w), place, key, s)
				}
			}
		}
	}
	if b, is, code := m.x.Get(0, "k", s); string(b) != "\x00" || !is || code != api.OK {
		t.Errorf("Get: got %q %v %v", b, is, code)
	}
	m.do(t, 0, put("k", ""))
	if b, is, code := m.x.Get(0, "k", s); len(b) != 0 || !is || code != api.OK {
		t.Errorf("Get of a put without bytes: got %q %v %v", b, is, code)
	}
	m.do(t, 0, gone("k"))
	if b, is, code := m.x.Get(0, "k", s); b != nil || is || code != api.OK {
		t.Errorf("Get of a delete: got %q %v %v", b, is, code)
	}
}

// P17.4: each error and its rank, and what the source is asked in each case.
func TestScan(t *testing.T) {
	texts := []string{"", "a", "c", "\xff", great(255), great(256)}
	for _, ended := range []bool{false, true} {
		m := written(t, ownPlace, vector(), few()...)
		if ended {
			m.end(t)
		}
		s := filled()
		for _, place := range places() {
			for _, limit := range append(far(), 0, 1, 2, 99, 100, 101, 102) {
				for _, from := range texts {
					for _, to := range texts {
						what := fmt.Sprint("ended ", ended)
						for _, s.horizon = range []int{math.MinInt, 0, 1, 4, 5, 7, 8, math.MaxInt} {
							m.sameScan(t, what, place, from, to, limit, s)
						}
						m.sameScan(t, what, place, from, to, limit, nil)
					}
				}
			}
		}
		m.holds(t, "behind scans")
	}
}

// P17.4: all bounds at all limits that cut a short range, at the own place and at another one.
func TestScanAtEachLimit(t *testing.T) {
	m := written(t, ownPlace, vector(), few()...)
	s := filled()
	texts := []string{"", "\x00", "a", "a\x00", "aa", "ab", "b", "bb", "c", "d", "dd", "g", "y", "z", "zz", "\xff", "\xff\x00", great(255)}
	for _, from := range texts {
		for _, to := range texts {
			for limit := 1; limit <= 14; limit++ {
				for place := range vector() {
					m.sameScan(t, "", place, from, to, limit, s)
				}
			}
		}
		if t.Failed() {
			return
		}
	}
}

// numbered is a shelf with so many keys.
func numbered(n int) *shelf {
	s := shelfOf()
	for i := range n {
		s.versions = append(s.versions, version{1, put(fmt.Sprintf("k%03d", i), fmt.Sprint(i))})
	}
	return s
}

// P17.4, Limits: as many pairs as the limit, one fewer, one more; no pair; a source is left as soon as it told one pair more.
func TestScanOfAsManyAsTheLimit(t *testing.T) {
	for _, limit := range []int{1, 2, 50, 99, 100} {
		for _, n := range []int{0, limit - 1, limit, limit + 1, limit + 2, limit + 30} {
			for place := range 2 {
				m, s := made(t, 0, []int{3, 3}, 1000), numbered(n)
				m.sameScan(t, fmt.Sprint(n, " pairs"), place, "", "", limit, s)
				same(t, "pairs that are told", len(s.told), min(n, limit+1))
				want := 0
				if n > limit {
					want = 1
				}
				same(t, "how often it was left", s.left, want)
			}
		}
	}
}

// P17.4: its own writes make pairs more, fewer, and others than those that are there, around the limit; at another place they are not seen.
func TestScanOfOwnWrites(t *testing.T) {
	rows := [][]write{
		{put("k", "first")}, {put("k0005", "between")}, {put("l", "last")}, {put("k000", "over")}, {put("k004", "")}, {gone("k000")}, {gone("k002")}, {gone("k009")},
		{gone("none")}, {gone("k000"), put("k", "x")}, {gone("k000"), gone("k001"), gone("k002"), gone("k003")}, {put("k003", "x"), gone("k003")}, {gone("k003"), put("k003", "x")},
		{put("a", "1"), put("b", "2"), put("c", "3")}, {put("x", "1"), put("y", "2"), put("z", "3")}, {put("k0001", ""), put("k0011", ""), put("k0021", "")},
	}
	for _, row := range rows {
		m := written(t, 1, []int{2, 2}, row...)
		for n := range 10 {
			s := numbered(n)
			for limit := 1; limit <= 12; limit++ {
				for place := range 2 {
					m.sameScan(t, fmt.Sprintf("%d pairs, writes %.200s", n, fmt.Sprint(row)), place, "", "", limit, s)
					m.sameScan(t, fmt.Sprintf("%d pairs, writes %.200s", n, fmt.Sprint(row)), place, "k001", "k003", limit, s)
				}
			}
		}
	}
}

// P17.4: writes alone, as many as the limit and around it, with a source that has nothing.
func TestScanOfWritesAlone(t *testing.T) {
	m := made(t, 0, []int{0}, 1<<20)
	for i := range 103 {
		if i == 0 || i > 97 {
			for _, limit := range []int{1, 2, 99, 100} {
				m.sameScan(t, fmt.Sprint(i, " writes"), 0, "", "", limit, shelfOf())
			}
		}
		m.do(t, 0, put(fmt.Sprintf("w%03d", i), "v"))
	}
	m.sameScan(t, "103 writes", 0, "", "", 100, numbered(200))
	m.sameScan(t, "103 writes", 0, "k150", "w050", 100, numbered(200))
}

// P17.4: what a source tells is told as it is, outside of the range too, unless it is written over.
func TestScanTellsWhatTheSourceTells(t *testing.T) {
	s := &walker{all: func(yield func(api.Pair) bool) {
		for _, key := range []string{"a", "b", "c", "d"} {
			if !yield(api.Pair{Key: key, Value: []byte("under")}) {
				return
			}
		}
	}}
	m := written(t, 0, []int{1, 1}, put("b", "own"), put("bb", "own"), gone("d"), put("z", "own"))
	got, more, code := m.x.Scan(0, "bb", "c", 9, s)
	sameList(t, "at its own place", pairsOf(got), []pair{{"a", "under"}, {"bb", "own"}, {"c", "under"}})
	same(t, "no others", more, false)
	same(t, "the code", code, api.OK)
	got, more, code = m.x.Scan(1, "bb", "c", 3, s)
	sameList(t, "at another one", pairsOf(got), []pair{{"a", "under"}, {"b", "under"}, {"c", "under"}})
	same(t, "others", more, true)
	same(t, "the code", code, api.OK)
}

// walker is a source of one walk, and of one value for every key.
type walker struct {
	all   iter.Seq[api.Pair]
	value []byte
}

func (w *walker) Get(string, int) ([]byte, bool)              { return w.value, true }
func (w *walker) Scan(string, string, int) iter.Seq[api.Pair] { return w.all }
func (w *walker) Horizon() int                                { return 0 }

// P17.4, W0: a source whose walk has no end is left, at its own place and at another one.
func TestScanOfAWalkWithoutAnEnd(t *testing.T) {
	s := &walker{all: func(yield func(api.Pair) bool) {
		for i := 0; yield(api.Pair{Key: fmt.Sprintf("k%09d", i)}); i++ {
		}
	}}
	m := written(t, 0, []int{1, 1}, put("k000000000", "v"), gone("k000000007"))
	for place := range 2 {
		for _, limit := range []int{1, 8, 100} {
			got, more, code := m.x.Scan(place, "", "", limit, s)
			same(t, "pairs", len(got), limit)
			same(t, "others", more, true)
			same(t, "the code", code, api.OK)
		}
	}
}

// absent is a source that answers for nothing at all, even where it is a pointer to nothing.
type absent struct{}

func (*absent) Get(string, int) ([]byte, bool)              { return []byte("of nothing"), true }
func (*absent) Scan(string, string, int) iter.Seq[api.Pair] { return func(func(api.Pair) bool) {} }
func (*absent) Horizon() int                                { return 0 }

// P17.3, P17.4, P17.7: a source is there, if the interface is not nil: what stands in it is not looked at.
func TestASourceThatIsANilPointerIsThere(t *testing.T) {
	var none *absent
	m := made(t, 0, []int{1}, 9)
	b, is, code := m.x.Get(0, "k", none)
	same(t, "Get", string(b)+fmt.Sprint(is, int(code)), "of nothingtrue 0")
	l, more, code := m.x.Scan(0, "", "", 1, none)
	same(t, "Scan", fmt.Sprint(len(l), more, int(code)), "0 false 0")
	v := m.x.View(none, m.a)
	b, is, code = v.Get("k")
	same(t, "a view's Get", string(b)+fmt.Sprint(is, int(code)), "of nothingtrue 0")
}

// label is a store of layer 14 as a source.
type label struct {
	*store.Store
	horizon int
}

func (l label) Horizon() int { return l.horizon }

// P17.3, P17.4: over the store of layer 14 it reads what is in the snapshot, and its own writes.
func TestOverAStore(t *testing.T) {
	s := store.New()
	for stamp, w := range []write{put("a", "1"), put("b", "2"), gone("a"), put("c", "3"), put("b", "4"), put("a", "5")} {
		same(t, "Apply", s.Apply(api.Version{Key: w.key, Stamp: stamp, Value: []byte(w.value), Dead: w.dead}), api.OK)
	}
	m := written(t, 1, []int{1, 3}, put("bb", "own"), gone("c"))
	for place, want := range [][]pair{{{"a", "1"}, {"b", "2"}}, {{"b", "2"}, {"bb", "own"}}} {
		l, more, code := m.x.Scan(place, "", "", 100, label{s, place})
		sameList(t, "Scan", pairsOf(l), want)
		same(t, "Scan", fmt.Sprint(more, int(code)), "false 0")
		for _, p := range want {
			b, is, code := m.x.Get(place, p.key, label{s, place})
			same(t, "Get", fmt.Sprint(string(b), is, int(code)), p.value+"true 0")
		}
		b, is, code := m.x.Get(place, "c", label{s, place})
		if !bytes.Equal(b, nil) || is || code != api.OK {
			t.Errorf("Get of what is not seen: %v %v %v", b, is, code)
		}
	}
	for place := range 2 {
		_, _, code := m.x.Scan(place, "", "", 100, label{s, 4})
		same(t, "Scan of what is too old", code, api.ErrOld)
		_, _, code = m.x.Get(place, "a", label{s, 4})
		same(t, "Get of what is too old", code, api.ErrOld)
	}
	var none txn.Source
	_, _, code := m.x.Get(1, "bb", none)
	same(t, "Get of its own write, without a source", code, api.ErrNil)
}
