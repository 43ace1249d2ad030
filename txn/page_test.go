package txn_test

import (
	"fmt"
	"iter"
	"math"
	"slices"
	"strings"
	"testing"

	"cloister/api"
	"cloister/quota"
	"cloister/txn"
)

// spoil writes over all of a list, its spare room included.
func spoil(b []byte) {
	b = b[:cap(b)]
	for i := range b {
		b[i] = 0xee
	}
}

// spoilPairs writes over all pairs of a list and their values, the spare room included.
func spoilPairs(l []api.Pair) {
	for i := range l {
		spoil(l[i].Value)
	}
	l = l[:cap(l)]
	for i := range l {
		l[i] = api.Pair{Key: "spoilt"}
	}
}

// P17.8, memory: the vector that is handed in is neither changed nor kept, and each one that is told is new memory, spare room too.
func TestSnapshotIsNew(t *testing.T) {
	room := []int{4, 7, -1, 100, 200, 300}
	x, _ := txn.New(1, room[:3])
	one, two := x.Snapshot(), x.Snapshot()
	sameList(t, "what was handed in", room, []int{4, 7, -1, 100, 200, 300})
	for i := range room {
		room[i] = -9
	}
	one = one[:cap(one)]
	for i := range one {
		one[i] = -8
	}
	sameList(t, "another answer", two, []int{4, 7, -1})
	sameList(t, "behind spoiling", x.Snapshot(), []int{4, 7, -1})
	m := pack{x: x, p: &paper{place: 1, snapshot: []int{4, 7, -1}}}
	for place := range 4 {
		m.sameGet(t, "behind spoiling", place, "a", filled())
		m.sameScan(t, "behind spoiling", place, "", "", 9, filled())
	}
}

// P17.8, memory: a value that is put is copied, its spare room is not touched, taken or refused.
func TestPutKeepsNothing(t *testing.T) {
	for _, n := range []int{0, 1, 3, 4096} {
		m, s := made(t, 0, []int{3, 3}, 1<<20), filled()
		room := []byte(strings.Repeat("v", 5000))
		v := m.x.View(s, m.a)
		same(t, "Put", m.x.Put(0, "k", room[:n], m.a), m.p.do(0, put("k", great(n))))
		same(t, "a view's Put", v.Put("l", room[:n]), m.p.do(0, put("l", great(n))))
		same(t, "Put refused", m.x.Put(1, "k", room[:n], m.a), api.ErrLevel)
		same(t, "Put refused", m.x.Put(0, "k", room, m.a), api.ErrValue)
		same(t, "what was handed in", string(room), strings.Repeat("v", 5000))
		spoil(room)
		for _, key := range []string{"k", "l"} {
			b, _, _ := m.x.Get(0, key, s)
			same(t, "the value", string(b), strings.Repeat("v", n))
		}
	}
}

// P17.8, memory: what Get, Scan and Writes tell of its own writes is new memory each time, also behind the end, and no two lists of one answer share any.
func TestOwnWritesAreToldAnew(t *testing.T) {
	m, s := written(t, 0, []int{3}, put("j", "vvv"), put("k", "vvv"), put("l", ""), gone("m")), shelfOf()
	v := m.viewOf(t, s)
	for range 3 {
		for _, key := range []string{"j", "k", "l"} {
			one, _, _ := m.x.Get(0, key, s)
			two, _, _ := v.Get(key)
			spoil(one)
			w, _ := m.p.last(key)
			same(t, "another answer", string(two), w.value)
			spoil(two)
		}
		first, _, _ := m.x.Scan(0, "", "", 9, s)
		second, _, _ := v.Scan("", "", 9)
		spoil(first[0].Value)
		same(t, "beside a spoilt one", string(first[1].Value), "vvv")
		spoilPairs(first)
		sameList(t, "another answer", pairsOf(second), []pair{{"j", "vvv"}, {"k", "vvv"}, {"l", ""}})
		spoilPairs(second)
		one, two := m.x.Writes(), m.x.Writes()
		for i := range one {
			spoil(one[i].Value)
		}
		clear(one[:cap(one)])
		sameList(t, "another answer", writesOf(t, two), m.p.writes())
		m.holds(t, "behind spoiling")
	}
	m.end(t)
	one := m.x.Writes()
	spoil(one[0].Value)
	m.holds(t, "behind spoiling behind the end")
}

// lender is a source that hands out its own memory.
type lender struct{ pairs []api.Pair }

func (l *lender) Get(key string, _ int) ([]byte, bool) {
	for _, p := range l.pairs {
		if p.Key == key {
			return p.Value, true
		}
	}
	return nil, false
}

func (l *lender) Scan(string, string, int) iter.Seq[api.Pair] { return slices.Values(l.pairs) }
func (l *lender) Horizon() int                                { return 0 }

// P17.8: a source's pairs are not changed, their spare room included, and what is told of them is new memory.
func TestSourcesPairsAreNotChanged(t *testing.T) {
	rooms := []string{"1st value", "2nd value", "3rd value", ""}
	l := &lender{}
	for i, key := range []string{"a", "b", "c", "d"} {
		l.pairs = append(l.pairs, api.Pair{Key: key, Value: []byte(rooms[i])[:min(3, len(rooms[i]))]})
	}
	m := written(t, 0, []int{1, 1}, put("b", "own"), put("e", "own"))
	v := m.x.View(l, m.a)
	for range 2 {
		for place := range 2 {
			for _, key := range []string{"a", "b", "c", "d", "e"} {
				b, _, _ := m.x.Get(place, key, l)
				_ = append(b[:0], "spoilt!!"...)
				spoil(b)
				b, _, _ = v.Get(key)
				spoil(b)
			}
			for limit := 1; limit < 6; limit++ {
				pairs, _, _ := m.x.Scan(place, "", "", limit, l)
				spoilPairs(pairs)
				pairs, _, _ = v.Scan("", "", limit)
				spoilPairs(pairs)
			}
		}
		for i, p := range l.pairs {
			same(t, "its key", p.Key, []string{"a", "b", "c", "d"}[i])
			same(t, "its value", string(p.Value), rooms[i][:min(3, len(rooms[i]))])
			same(t, "its room", strings.HasPrefix(string(p.Value[:cap(p.Value)]), rooms[i]), true)
		}
		m.holds(t, "behind spoiling")
	}
}

// P17.8: a source that hands out one and the same memory for all its pairs, and writes over it in between: what was told is what it was as it was told.
func TestASourceThatWritesOverItsMemory(t *testing.T) {
	room := make([]byte, 2)
	s := &walker{value: room, all: func(yield func(api.Pair) bool) {
		for i := range 9 {
			copy(room, fmt.Sprintf("%d%d", i, i))
			if !yield(api.Pair{Key: fmt.Sprint("k", i), Value: room}) {
				break
			}
		}
		spoil(room)
	}}
	m := written(t, 0, []int{1, 1}, put("k3", "own"), put("k33", "own"))
	for place := range 2 {
		pairs, _, _ := m.x.Scan(place, "", "", 8, s)
		want := []pair{{"k0", "00"}, {"k1", "11"}, {"k2", "22"}, {"k3", "33"}, {"k4", "44"}, {"k5", "55"}, {"k6", "66"}, {"k7", "77"}}
		if place == 0 {
			want = []pair{{"k0", "00"}, {"k1", "11"}, {"k2", "22"}, {"k3", "own"}, {"k33", "own"}, {"k4", "44"}, {"k5", "55"}, {"k6", "66"}}
		}
		sameList(t, "Scan", pairsOf(pairs), want)
		copy(room, "gg")
		b, _, _ := m.x.Get(place, "k0", s)
		spoil(room)
		same(t, "Get", string(b), "gg")
	}
}

// The page: nil and empty lists are the same.
func TestNilAndEmpty(t *testing.T) {
	for _, none := range [][]byte{nil, {}, make([]byte, 0, 9)} {
		m := made(t, 0, []int{1, 1}, 10)
		same(t, "Put", m.x.Put(0, "k", none, m.a), m.p.do(0, put("k", "")))
		m.holds(t, "a put without bytes")
		s := &lender{[]api.Pair{{Key: "j", Value: none}}}
		for place := range 2 {
			b, is, code := m.x.Get(place, "j", s)
			same(t, "Get", fmt.Sprint(len(b), is, int(code)), "0 true 0")
		}
		pairs, _, _ := m.x.Scan(0, "", "", 9, s)
		sameList(t, "Scan", pairsOf(pairs), []pair{{"j", ""}, {"k", ""}})
	}
	for _, none := range [][]int{nil, {}, make([]int, 0, 9)} {
		for _, place := range far() {
			_, code := txn.New(place, none)
			same(t, "New of none", code, api.ErrArg)
		}
		_, code := txn.New(0, none)
		same(t, "New of none", code, api.ErrArg)
	}
}

// stubborn is a source such as may not be: it tells bytes beside a false, its walk goes on when it is left, and its keys do not rise.
type stubborn struct{ none bool }

func (stubborn) Get(string, int) ([]byte, bool) { return []byte("no"), false }
func (stubborn) Horizon() int                   { return math.MinInt }
func (s stubborn) Scan(string, string, int) iter.Seq[api.Pair] {
	if s.none {
		return nil
	}
	return func(yield func(api.Pair) bool) {
		for _, key := range []string{"z", "", "a", "a", great(300), "k", "b"} {
			yield(api.Pair{Key: key, Value: []byte("v")})
		}
	}
}

// W0: every call ends at arguments of every kind, and with sources such as may not be; beside a false and an error every other answer is zero.
func TestEveryCallEnds(t *testing.T) {
	texts := []string{"", "\x00", "a", "k", great(255), great(256), great(1 << 17)}
	for _, source := range []txn.Source{nil, stubborn{}, stubborn{true}, filled(), &lender{}} {
		for _, place := range places() {
			m := written(t, ownPlace, vector(), put("k", "v"), gone("a"))
			for _, v := range []*txn.View{m.x.View(source, m.a), {}, nil} {
				for _, key := range texts {
					for _, limit := range []int{math.MinInt, -1, 0, 1, 2, 100, 101, math.MaxInt} {
						pairs, more, code := m.x.Scan(place, key, "k", limit, source)
						same(t, "Scan beside an error", code != api.OK && (len(pairs) > 0 || more), false)
						pairs, more, code = v.Scan(key, "", limit)
						same(t, "a view's Scan beside an error", code != api.OK && (len(pairs) > 0 || more), false)
					}
					b, is, code := m.x.Get(place, key, source)
					same(t, "Get beside an error or a false", (code != api.OK || !is) && (b != nil || is), false)
					b, is, code = v.Get(key)
					same(t, "a view's Get beside an error or a false", (code != api.OK || !is) && (b != nil || is), false)
					m.x.Put(place, key, make([]byte, len(key)), m.a)
					m.x.Delete(place, key, m.a)
					v.Put(key, make([]byte, len(key)))
					v.Delete(key)
				}
			}
			m.x.End(m.a)
		}
	}
}

// W0: the zero transaction and a copy of one are none that a call made; their calls end, and none panics.
func TestZeroAndCopyEnd(t *testing.T) {
	m, s := written(t, 0, []int{3, -1}, few()...), filled()
	for _, x := range []txn.Txn{{}, *m.x} {
		for _, v := range []*txn.View{x.View(s, m.a), {}, new(txn.View)} {
			for place := -1; place < 3; place++ {
				x.Get(place, "k", s)
				x.Scan(place, "", "", 9, s)
				x.Put(place, "k", []byte("v"), m.a)
				x.Delete(place, "k", m.a)
			}
			v.Get("k")
			v.Scan("", "", 9)
			v.Put("k", []byte("v"))
			v.Delete("k")
			copied := *v
			copied.Get("k")
			copied.Scan("", "", 9)
			copied.Put("k", []byte("v"))
			copied.Delete("k")
		}
		x.Place()
		x.Snapshot()
		x.Writes()
		x.End(m.a)
		x.End(&quota.Account{})
		x.Ended()
	}
}

// shown is an answer of Get as the chapter writes it: the value's bytes, or the error, or none.
func shown(b []byte, is bool, code api.Errno) string {
	switch {
	case code != api.OK:
		return code.Error()
	case !is:
		return "none"
	}
	return fmt.Sprint(b)
}

// shownScan is an answer of Scan as the chapter writes it.
func shownScan(l []api.Pair, more bool, code api.Errno) string {
	if code != api.OK {
		return code.Error()
	}
	var all []string
	for _, p := range l {
		all = append(all, fmt.Sprint(p.Key, " ", p.Value, ", "))
	}
	return strings.Join(all, "") + fmt.Sprint(more)
}

// The chapter's examples, one behind the other.
func TestExamples(t *testing.T) {
	snapshot := []int{4, 7, -1}
	for _, place := range []int{2, 3, -1} {
		_, code := txn.New(place, snapshot)
		same(t, "New", code, api.ErrArg)
	}
	s0 := shelfOf(version{3, put("a", "\x0a")}, version{5, put("a", "\x0b")})
	s1 := shelfOf(version{7, put("k", "\x14")})
	s0.horizon, s1.horizon = 2, 7
	m := made(t, 1, snapshot, 10)
	x, q := m.x, m.a
	same(t, "Get", strings.Join([]string{shown(x.Get(0, "a", s0)), shown(x.Get(1, "k", s1)), shown(x.Get(2, "a", s0)), shown(x.Get(3, "a", s0)), shown(x.Get(0, "", s0))}, "; "), "[10]; [20]; error 170; error 2; error 140")
	same(t, "Put", fmt.Sprint(int(x.Put(0, "a", []byte{1}, q)), int(x.Put(1, "x", []byte{1, 2, 3}, q)), int(x.Put(1, "y", make([]byte, 9), q)), int(x.Put(1, "x", []byte{1}, q)), q.Pending()), "171 0 150 0 2")
	same(t, "Get", shown(x.Get(1, "x", s1)), "[1]")
	same(t, "Delete", x.Delete(1, "k", q), api.OK)
	same(t, "Get", shown(x.Get(1, "k", s1)), "none")
	same(t, "Scan", shownScan(x.Scan(1, "", "", 9, s1)), "x [1], false")
	same(t, "Scan", shownScan(x.Scan(1, "", "", 0, s1))+"; "+shownScan(x.Scan(0, "", "", 1, s0)), "error 2; a [10], false")
	s1.horizon = 8
	same(t, "what is too old", strings.Join([]string{shown(x.Get(1, "x", s1)), shown(x.Get(1, "z", s1)), shownScan(x.Scan(1, "", "", 9, s1))}, "; "), "[1]; error 172; error 172")
	sameList(t, "Writes", writesOf(t, x.Writes()), []write{gone("k"), put("x", "\x01")})
	same(t, "End", fmt.Sprint(int(x.End(q)), q.Pending(), int(x.End(q))), "0 0 173")
	same(t, "Get behind the end", shown(x.Get(0, "a", s0)), "error 173")
}
