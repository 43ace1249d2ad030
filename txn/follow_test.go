package txn_test

import (
	"fmt"
	"math"
	"math/rand"
	"runtime"
	"strings"
	"testing"
	"weak"

	"cloister/api"
	"cloister/txn"
)

// aWrite is a write by chance, now and then one that may not be.
func aWrite(r *rand.Rand) write {
	keys := someKeys()
	w := write{key: keys[r.Intn(len(keys))], dead: r.Intn(3) == 0}
	if !w.dead {
		w.value = great(r.Intn(5))
	}
	switch r.Intn(16) {
	case 0:
		w.key = ""
	case 1:
		w.key += great(256)
	case 2:
		if !w.dead {
			w.value = great(4090 + r.Intn(8))
		}
	}
	return w
}

// aPlace is most often the own place, else one by chance.
func aPlace(r *rand.Rand, own int) int {
	if r.Intn(4) > 0 {
		return own
	}
	return places()[r.Intn(len(places()))]
}

// P17.2 to P17.7, P17.10, P17.11: over rows of calls by chance a transaction, its account and its sources are what the chapter's words say.
func TestRowsOfCalls(t *testing.T) {
	r := rand.New(rand.NewSource(17))
	for range 60 {
		own := []int{0, 1, 3}[r.Intn(3)]
		m := made(t, own, vector(), []int{0, 20, 600, 5000, 1 << 20}[r.Intn(5)])
		s := filled()
		for range 120 {
			s.horizon = horizons()[r.Intn(len(horizons()))]
			key, to := aWrite(r).key, aWrite(r).key
			switch r.Intn(5) {
			case 0:
				m.sameGet(t, "in a row of calls", aPlace(r, own), key, s)
			case 1:
				m.sameScan(t, "in a row of calls", aPlace(r, own), key, to, r.Intn(8)-1, s)
			case 2:
				if r.Intn(40) == 0 {
					m.end(t)
				}
			default:
				m.do(t, aPlace(r, own), aWrite(r))
			}
			m.holds(t, "in the midst of a row of calls")
		}
	}
}

// told is all that Get and Scan of a transaction answer of a source at every place, as one text.
func told(x *txn.Txn, s txn.Source) string {
	var all strings.Builder
	for place := range x.Snapshot() {
		for _, key := range someKeys() {
			b, is, code := x.Get(place, key, s)
			fmt.Fprintf(&all, "%q %v %d\n", b, is, code)
		}
		for _, limit := range []int{1, 3, 100} {
			l, more, code := x.Scan(place, "", "\xff", limit, s)
			fmt.Fprintf(&all, "%q %v %d\n", pairsOf(l), more, code)
		}
	}
	return all.String()
}

// P17.9: the same read again answers the same, while the source comes to tell other things at other stamps, and its horizon goes up, but not above the number.
func TestRepeatable(t *testing.T) {
	m := written(t, 1, []int{4, 4, -1}, few()...)
	s := filled()
	s.horizon = -3
	want := told(m.x, s)
	for i := range 40 {
		for j := range s.versions {
			if v := &s.versions[j]; v.stamp > 4 {
				v.value, v.dead = fmt.Sprint("other ", i), i%3 == 0
			}
		}
		s.versions = append(s.versions, version{5 + i, put(someKeys()[i%13], "later")}, version{5 + i, gone(fmt.Sprint("b", i))})
		s.horizon = min(4, i-3)
		same(t, "the same reads again", told(m.x, s), want)
	}
	s.horizon = 5
	if told(m.x, s) == want {
		t.Error("what is too old is told")
	}
}

// P17.10: it finds each write till it writes that key again, and at other places nothing has changed.
func TestItsOwnWrites(t *testing.T) {
	m, s := made(t, 1, []int{3, 3, 3}, 1<<20), filled()
	bare := made(t, 1, []int{3, 3, 3}, 1<<20)
	for i, w := range append(few(), few()...) {
		m.do(t, 1, w)
		for _, s.horizon = range []int{0, 3, 4} {
			b, is, code := m.x.Get(1, w.key, s)
			same(t, fmt.Sprint("behind the write ", i), fmt.Sprint(string(b), is, int(code)), fmt.Sprint(w.value, !w.dead, 0))
			for _, place := range []int{0, 2} {
				for _, key := range someKeys() {
					bare.sameGet(t, "at another place", place, key, s)
					b, is, code := m.x.Get(place, key, s)
					c, there, other := bare.x.Get(place, key, s)
					same(t, "at another place", fmt.Sprint(string(b), is, int(code)), fmt.Sprint(string(c), there, int(other)))
				}
			}
		}
	}
}

// P17.11: the account's Pending goes up and down with the transaction's own bytes, and is behind its End what it was ahead of it.
func TestTheCharge(t *testing.T) {
	r := rand.New(rand.NewSource(1711))
	for range 30 {
		m, s := made(t, 1, vector(), 6000), filled()
		others := r.Intn(40)
		m.a.Charge(0, others)
		v := m.x.View(s, m.a)
		for range 100 {
			w := aWrite(r)
			switch r.Intn(5) {
			case 0:
				m.x.Put(aPlace(r, 1), w.key, []byte(w.value), m.a)
			case 1:
				m.x.Delete(aPlace(r, 1), w.key, m.a)
			case 2:
				v.Put(w.key, []byte(w.value))
			case 3:
				v.Delete(w.key)
			default:
				m.x.Get(aPlace(r, 1), w.key, s)
				m.x.Scan(aPlace(r, 1), w.key, "", 5, s)
			}
			own := 0
			for _, x := range m.x.Writes() {
				own += len(x.Key) + len(x.Value)
			}
			same(t, "Pending", m.a.Pending(), others+own)
		}
		same(t, "End", m.x.End(m.a), api.OK)
		same(t, "Pending behind the end", m.a.Pending(), others)
		same(t, "End", m.x.End(m.a), api.ErrEnded)
		m.x.Put(1, "k", []byte("v"), m.a)
		same(t, "Pending behind all", m.a.Pending(), others)
	}
}

// P17.12: whatever is asked, a source at a place whose number is below 0 is asked for no value and no pair.
func TestNothingUp(t *testing.T) {
	r := rand.New(rand.NewSource(1712))
	m := written(t, ownPlace, vector(), few()...)
	s := filled()
	for range 3000 {
		place := []int{2, 4}[r.Intn(2)]
		s.horizon = horizons()[r.Intn(len(horizons()))]
		key, to := aWrite(r).key, aWrite(r).key
		m.x.Get(place, key, s)
		m.x.Scan(place, key, to, r.Intn(104)-1, s)
		m.do(t, place, aWrite(r))
		for _, asked := range s.asked {
			if asked != "Horizon" {
				t.Fatal("asked: ", asked)
			}
		}
	}
	same(t, "pairs that were told", len(s.told), 0)
	m.holds(t, "behind all that")
}

// P17.12: all that is written is seen at the own place alone, and no source but the one handed in is asked.
func TestNothingBeside(t *testing.T) {
	m := made(t, 1, []int{9, 9, 9, 9}, 1<<20)
	shelves := []*shelf{filled(), filled(), shelfOf(), filled()}
	for _, w := range few() {
		for place := range shelves {
			m.do(t, place, w)
		}
	}
	m.holds(t, "behind writes at all places")
	m.reads(t, "at all places", shelves)
	for place, s := range shelves {
		for i := range shelves {
			shelves[i].asked, shelves[i].told = nil, nil
		}
		m.sameGet(t, "of one place", place, "bb", s)
		m.sameScan(t, "of one place", place, "", "", 2, s)
		for i, other := range shelves {
			if i != place {
				same(t, "what others are asked", len(other.asked)+len(other.told), 0)
			}
		}
	}
}

// P17.9, W1: transactions know nothing of each other, even such as are charged to one account.
func TestTransactionsBesideEachOther(t *testing.T) {
	m, n := made(t, 1, vector(), 1<<20), made(t, 1, vector(), 1<<20)
	n.a = m.a
	same(t, "Begin", m.a.Begin(), api.OK)
	m.p.open, n.p.open = 2, 2
	s := filled()
	for i, w := range few() {
		m.do(t, 1, w)
		n.p.others = m.p.own()
		n.holds(t, "the second one")
		if i%2 == 0 {
			n.do(t, 1, write{key: w.key, value: "other"})
		}
		m.p.others = n.p.own()
		m.holds(t, "the first one")
		n.sameScan(t, "the second one", 1, "", "", 100, s)
		m.sameScan(t, "the first one", 1, "", "", 100, s)
	}
	m.end(t)
	n.p.others, n.p.open = 0, 1
	n.holds(t, "the second one behind the end of the first")
	n.sameScan(t, "the second one", 1, "", "", 100, s)
	n.end(t)
	n.holds(t, "the second one behind its end")
}

// heldOf is how many bytes of memory are held on to behind a full collection.
func heldOf() int {
	var m runtime.MemStats
	runtime.GC()
	runtime.GC()
	runtime.ReadMemStats(&m)
	return int(m.HeapAlloc)
}

// Memory: nothing is kept of what was asked, of what was written before, and of what was refused.
func TestNothingKeptOfWhatWent(t *testing.T) {
	m := made(t, 0, []int{9, 9}, 9000)
	s := numbered(100)
	before := heldOf()
	for i := range 3000 {
		m.x.Put(0, "k", make([]byte, 4096), m.a)
		m.x.Put(0, fmt.Sprint("l", i), make([]byte, 4097), m.a)
		m.x.Put(1, fmt.Sprint("m", i), make([]byte, 4096), m.a)
		m.x.Delete(0, "k", m.a)
		m.x.Get(0, "k042", s)
		if i%10 == 0 {
			m.x.Scan(0, "", "", 100, s)
			m.x.View(s, m.a)
		}
		s.asked, s.told = nil, nil
	}
	if kept := heldOf() - before; kept > 2<<20 {
		t.Error("so many bytes are kept: ", kept)
	}
	runtime.KeepAlive(m)
}

// Memory: neither a source that was read nor a value that was put, also one that is a piece of a greater one, nor the vector is kept.
func TestNothingHandedInIsKept(t *testing.T) {
	all, values, sources, vectors := handIn(t)
	runtime.GC()
	runtime.GC()
	for i := range values {
		same(t, fmt.Sprint("the value ", i, " is held"), values[i].Value() == nil, true)
		same(t, fmt.Sprint("the source ", i, " is held"), sources[i].Value() == nil, true)
		same(t, fmt.Sprint("the vector ", i, " is held"), vectors[i].Value() == nil, true)
	}
	for _, x := range all {
		sameList(t, "Snapshot", x.Snapshot(), []int{3, 4})
	}
	runtime.KeepAlive(all)
}

// handIn makes transactions and hands in things to their calls, of which it tells how to look after them.
func handIn(t *testing.T) (all []*txn.Txn, values []weak.Pointer[[1000]byte], sources []weak.Pointer[shelf], vectors []weak.Pointer[[1000]int]) {
	t.Helper()
	for i, key := range []string{"k", "", "l", great(256)} {
		vector := &[1000]int{3, 4}
		vectors = append(vectors, weak.Make(vector))
		x, _ := txn.New(0, vector[:2])
		all = append(all, x)
		m := made(t, 0, []int{3, 4}, 100)
		value, source := &[1000]byte{}, filled()
		values, sources = append(values, weak.Make(value)), append(sources, weak.Make(source))
		for place := range 2 {
			x.Put(place, key, value[:i], m.a)
			x.Get(place, "a", source)
			x.Scan(place, "", "", 1, source)
			x.Scan(place, "", "", 100, source)
		}
		x.View(source, m.a)
	}
	return all, values, sources, vectors
}

// Memory: a key that is a piece of a long text does not keep that text.
func TestNoLongTextIsKept(t *testing.T) {
	m := made(t, 0, []int{0}, 1000)
	before := heldOf()
	for i := range 20 {
		m.x.Put(0, strings.Repeat(string(rune('a'+i)), 1<<20)[:3], nil, m.a)
		m.x.Delete(0, strings.Repeat(string(rune('A'+i)), 1<<20)[:3], m.a)
	}
	if kept := heldOf() - before; kept > 8<<20 {
		t.Error("so many bytes are kept: ", kept)
	}
	same(t, "Pending", m.a.Pending(), 120)
	runtime.KeepAlive(m)
}

// P17.4: what is told of a place hangs on the number of that place alone.
func TestEachPlaceByItsOwnNumber(t *testing.T) {
	for own := range 3 {
		for n := range 11 {
			v := []int{0, 0, 0}
			v[own], v[(own+1)%3], v[(own+2)%3] = n, 10-n, math.MaxInt
			m := made(t, own, v, 100)
			m.reads(t, fmt.Sprint(v), []*shelf{filled(), filled(), filled()})
		}
	}
}
