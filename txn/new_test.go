package txn_test

import (
	"fmt"
	"math"
	"testing"

	"cloister/api"
	"cloister/quota"
	"cloister/txn"
)

// snapshots is all vectors of at most so many of these numbers.
func snapshots(most int, numbers ...int) (all [][]int) {
	all = [][]int{nil}
	for from := 0; most > 0; most-- {
		to := len(all)
		for _, v := range all[from:to] {
			for _, n := range numbers {
				all = append(all, append(append([]int(nil), v...), n))
			}
		}
		from = to
	}
	return all
}

// P17.1: every place below, in and above a snapshot, of none too, whose numbers are below 0 or not at the place and beside it.
func TestNew(t *testing.T) {
	for _, v := range snapshots(4, math.MinInt, -1, 0, 7, math.MaxInt) {
		for _, place := range append(far(), 0, 1, 2, 3, 4, 5) {
			what := fmt.Sprintf("New(%d, %v)", place, v)
			x, code := txn.New(place, v)
			if place < 0 || place > len(v)-1 || v[place] < 0 {
				same(t, what, code, api.ErrArg)
				same(t, what+": no transaction", x == nil, true)
				continue
			}
			same(t, what, code, api.OK)
			same(t, what+": Place", x.Place(), place)
			sameList(t, what+": Snapshot", x.Snapshot(), v)
			same(t, what+": Writes", len(x.Writes()), 0)
			same(t, what+": Ended", x.Ended(), false)
		}
		if t.Failed() {
			return
		}
	}
}

// P17.1, Limits: any number of places, and any number that is not below 0 at the own one.
func TestNewOfManyPlaces(t *testing.T) {
	for _, n := range []int{1, 16, 17, 1000, 100000} {
		v := make([]int, n)
		for i := range v {
			v[i] = -1
		}
		for _, place := range []int{0, n / 2, n - 1} {
			for _, number := range []int{0, 1, 1 << 62, 1<<62 + 1, math.MaxInt} {
				v[place] = number
				x, code := txn.New(place, v)
				same(t, "New", code, api.OK)
				sameList(t, "Snapshot", x.Snapshot(), v)
			}
			v[place] = -1
			x, code := txn.New(place, v)
			same(t, "New of a number below 0", code, api.ErrArg)
			same(t, "no transaction", x == nil, true)
		}
		v[0] = 5
		_, code := txn.New(n, v)
		same(t, "New above the snapshot", code, api.ErrArg)
	}
}

// P17.2: of a transaction that has written, that has ended, that could not end.
func TestPlaceSnapshotWritesEnded(t *testing.T) {
	for place, v := range map[int][]int{0: {3}, 1: {-1, 0, 5}, 2: {7, 8, 9, -1}} {
		m := made(t, place, v, 1<<20)
		m.holds(t, "new")
		for _, w := range few() {
			m.do(t, place, w)
			m.holds(t, fmt.Sprintf("behind a write of %.20q", w.key))
		}
		m.do(t, place, put("", "no"))
		m.do(t, len(v), put("k", "no"))
		m.holds(t, "behind writes that are refused")
		m.end(t)
		m.holds(t, "behind the end")
		m.end(t)
		m.do(t, place, put("later", "no"))
		m.holds(t, "behind calls behind the end")
	}
}

// P17.2: what it has written is told by key, byte by byte, with the stamp 0, whatever the snapshot says.
func TestWritesByKey(t *testing.T) {
	m := written(t, 0, []int{41}, put("\xff", "1"), put("b", "2"), gone("\x80"), put("ab", ""), put("B", "3"), gone("a"), put("a\x00", "4"), put("b", ""), gone("ab"))
	want := []write{put("B", "3"), gone("a"), put("a\x00", "4"), gone("ab"), put("b", ""), gone("\x80"), put("\xff", "1")}
	sameList(t, "Writes", writesOf(t, m.x.Writes()), want)
	m.end(t)
	sameList(t, "Writes behind the end", writesOf(t, m.x.Writes()), want)
}

// P17.2 to P17.7: a transaction that is not there, with arguments of all kinds.
func TestOfNone(t *testing.T) {
	var x *txn.Txn
	same(t, "Place", x.Place(), 0)
	same(t, "Snapshot", len(x.Snapshot()), 0)
	same(t, "Writes", len(x.Writes()), 0)
	same(t, "Ended", x.Ended(), true)
	a, _ := quota.New(api.Account{Quota: 100, Open: 1})
	a.Begin()
	a.Charge(0, 5)
	s := filled()
	for _, place := range append(far(), 0, 1) {
		for _, key := range []string{"", "a", great(256)} {
			for _, source := range []txn.Source{nil, s} {
				b, is, code := x.Get(place, key, source)
				if b != nil || is || code != api.ErrNil {
					t.Errorf("Get: got %v %v %v", b, is, code)
				}
				l, more, code := x.Scan(place, key, key, place, source)
				if l != nil || more || code != api.ErrNil {
					t.Errorf("Scan: got %v %v %v", l, more, code)
				}
			}
			for _, account := range []*quota.Account{nil, a} {
				same(t, "Put", x.Put(place, key, nil, account), api.ErrNil)
				same(t, "Put", x.Put(place, key, make([]byte, 5000), account), api.ErrNil)
				same(t, "Delete", x.Delete(place, key, account), api.ErrNil)
				same(t, "End", x.End(account), api.ErrNil)
			}
		}
	}
	same(t, "Pending", a.Pending(), 5)
	same(t, "Open", a.Open(), 1)
	sameList(t, "what is asked", s.asked, nil)
}
