package txn_test

import (
	"fmt"
	"iter"
	"math"
	"sort"
	"strings"
	"testing"

	"cloister/api"
	"cloister/quota"
	"cloister/txn"
)

// same holds an answer against what is wanted.
func same[A comparable](t *testing.T, what string, got, want A) {
	t.Helper()
	if got != want {
		t.Errorf("%.300s: got %.300s, want %.300s", what, fmt.Sprintf("%#v", got), fmt.Sprintf("%#v", want))
	}
}

// sameList holds a list against what is wanted; nil and empty ones are the same.
func sameList[A comparable](t *testing.T, what string, got, want []A) {
	t.Helper()
	like := len(got) == len(want)
	for i := 0; like && i < len(got); i++ {
		like = got[i] == want[i]
	}
	if !like {
		t.Errorf("%.300s: got %.400s, want %.400s", what, fmt.Sprintf("%#v", got), fmt.Sprintf("%#v", want))
	}
}

// great is a text of so many bytes.
func great(n int) string { return strings.Repeat("g", n) }

// pair is an api.Pair as a thing that can be compared.
type pair struct{ key, value string }

func pairsOf(all []api.Pair) (pairs []pair) {
	for _, p := range all {
		pairs = append(pairs, pair{p.Key, string(p.Value)})
	}
	return pairs
}

// write is a call of Put or Delete, and what is told of it, as a thing that can be compared.
type write struct {
	key, value string
	dead       bool
}

func put(key, value string) write { return write{key: key, value: value} }

func gone(key string) write { return write{key: key, dead: true} }

// writesOf is the writes of versions, all of which must have the stamp 0.
func writesOf(t *testing.T, versions []api.Version) (writes []write) {
	t.Helper()
	for _, v := range versions {
		same(t, "the stamp of "+v.Key, v.Stamp, 0)
		writes = append(writes, write{v.Key, string(v.Value), v.Dead})
	}
	return writes
}

// version is a write of a shelf, from a stamp on.
type version struct {
	stamp int
	write
}

// shelf is a source: a list of versions that is gone through for each answer, and a horizon. It tells what it was asked, how many pairs it told, and whether it was left.
type shelf struct {
	versions []version
	horizon  int
	asked    []string
	told     []string
	left     int
}

// at is what a key is at a stamp.
func (s *shelf) at(key string, stamp int) (last version, is bool) {
	for _, v := range s.versions {
		if v.key == key && v.stamp <= stamp && (!is || v.stamp > last.stamp) {
			last, is = v, true
		}
	}
	return last, is && !last.dead
}

// pairs is the pairs of a range at a stamp, by key.
func (s *shelf) pairs(from, to string, stamp int) (all []pair) {
	for i, v := range s.versions {
		first := true
		for _, w := range s.versions[:i] {
			first = first && w.key != v.key
		}
		if last, is := s.at(v.key, stamp); is && first && inRange(v.key, from, to) {
			all = append(all, pair{v.key, last.value})
		}
	}
	sort.Slice(all, func(i, j int) bool { return all[i].key < all[j].key })
	return all
}

func (s *shelf) Get(key string, stamp int) ([]byte, bool) {
	s.asked = append(s.asked, askedGet(key, stamp))
	v, is := s.at(key, stamp)
	if !is {
		return nil, false
	}
	return []byte(v.value), true
}

func (s *shelf) Scan(from, to string, stamp int) iter.Seq[api.Pair] {
	s.asked = append(s.asked, askedScan(from, to, stamp))
	return func(yield func(api.Pair) bool) {
		for _, p := range s.pairs(from, to, stamp) {
			s.told = append(s.told, p.key)
			if !yield(api.Pair{Key: p.key, Value: []byte(p.value)}) {
				s.left++
				return
			}
		}
	}
}

func (s *shelf) Horizon() int {
	s.asked = append(s.asked, "Horizon")
	return s.horizon
}

func askedGet(key string, stamp int) string { return fmt.Sprintf("Get %q %d", key, stamp) }

func askedScan(from, to string, stamp int) string {
	return fmt.Sprintf("Scan %q %q %d", from, to, stamp)
}

// inRange tells whether a key is in a range.
func inRange(key, from, to string) bool {
	return !(key < from) && (to == "" || key < to)
}

// shelfOf is a shelf of such versions, with a horizon that is below every number.
func shelfOf(versions ...version) *shelf { return &shelf{versions: versions, horizon: math.MinInt} }

// paper is a transaction as the chapter's words have it, and its account: all writes that were taken, one behind the other, all of which are gone through for each answer, and what the account has counted.
type paper struct {
	place    int
	snapshot []int
	done     []write
	ended    bool
	quota    int
	live     int
	others   int // pending bytes that are not of this transaction
	open     int
}

// last is the last write of a key.
func (p *paper) last(key string) (last write, is bool) {
	for _, w := range p.done {
		if w.key == key {
			last, is = w, true
		}
	}
	return last, is
}

// writes is the last write of each key, by key.
func (p *paper) writes() (all []write) {
	for i, w := range p.done {
		later := false
		for _, x := range p.done[i+1:] {
			later = later || x.key == w.key
		}
		if !later {
			all = append(all, w)
		}
	}
	sort.Slice(all, func(i, j int) bool { return all[i].key < all[j].key })
	return all
}

// own is the bytes of all writes.
func (p *paper) own() (sum int) {
	for _, w := range p.writes() {
		sum += len(w.key) + len(w.value)
	}
	return sum
}

// pending is what the account has pending.
func (p *paper) pending() int {
	if p.ended {
		return p.others
	}
	return p.others + p.own()
}

func (p *paper) isPlace(place int) bool { return 0 <= place && place <= len(p.snapshot)-1 }

// get is what Get answers, and what the source is asked for it.
func (p *paper) get(place int, key string, from *shelf) (value string, found bool, code api.Errno, asked []string) {
	if from == nil {
		return "", false, 1, nil
	}
	if p.ended {
		return "", false, 173, nil
	}
	if !p.isPlace(place) {
		return "", false, 2, nil
	}
	if len(key) == 0 || len(key) > 255 {
		return "", false, 140, nil
	}
	if p.snapshot[place] < 0 {
		return "", false, 170, nil
	}
	if w, is := p.last(key); is && place == p.place {
		return w.value, !w.dead, 0, nil
	}
	asked = []string{"Horizon"}
	if p.snapshot[place] < from.horizon {
		return "", false, 172, asked
	}
	asked = append(asked, askedGet(key, p.snapshot[place]))
	if v, is := from.at(key, p.snapshot[place]); is {
		return v.value, true, 0, asked
	}
	return "", false, 0, asked
}

// scan is what Scan answers, and what the source is asked for it.
func (p *paper) scan(place int, from, to string, limit int, source *shelf) (pairs []pair, more bool, code api.Errno, asked []string) {
	if source == nil {
		return nil, false, 1, nil
	}
	if p.ended {
		return nil, false, 173, nil
	}
	if !p.isPlace(place) {
		return nil, false, 2, nil
	}
	if limit < 1 || limit > 100 {
		return nil, false, 2, nil
	}
	if len(from) > 255 || len(to) > 255 {
		return nil, false, 140, nil
	}
	if p.snapshot[place] < 0 {
		return nil, false, 170, nil
	}
	asked = []string{"Horizon"}
	if p.snapshot[place] < source.horizon {
		return nil, false, 172, asked
	}
	asked = append(asked, askedScan(from, to, p.snapshot[place]))
	all := p.seen(place, from, to, source)
	if len(all) > limit {
		return all[:limit], true, 0, asked
	}
	return all, false, 0, asked
}

// seen is all pairs of a range that are seen at a place.
func (p *paper) seen(place int, from, to string, source *shelf) (all []pair) {
	under := source.pairs(from, to, p.snapshot[place])
	if place != p.place {
		return under
	}
	for _, x := range under {
		if _, is := p.last(x.key); !is {
			all = append(all, x)
		}
	}
	for _, w := range p.writes() {
		if !w.dead && inRange(w.key, from, to) {
			all = append(all, pair{w.key, w.value})
		}
	}
	sort.Slice(all, func(i, j int) bool { return all[i].key < all[j].key })
	return all
}

// do takes a write, unless it may not be.
func (p *paper) do(place int, w write) api.Errno {
	if p.ended {
		return 173
	}
	if !p.isPlace(place) {
		return 2
	}
	if len(w.key) == 0 || len(w.key) > 255 {
		return 140
	}
	if len(w.value) > 4096 {
		return 141
	}
	if place != p.place {
		return 171
	}
	old, _ := p.last(w.key)
	if p.live+p.pending()-len(old.key)-len(old.value)+len(w.key)+len(w.value) > p.quota {
		return 150
	}
	p.done = append(p.done, w)
	return 0
}

// end ends it, unless it may not.
func (p *paper) end() api.Errno {
	if p.ended {
		return 173
	}
	if p.open == 0 {
		return 2
	}
	p.ended = true
	p.open--
	return 0
}

// pack is a transaction, the account that it is charged to, and the paper of both.
type pack struct {
	x *txn.Txn
	a *quota.Account
	p *paper
}

// made is an open transaction with an account of so many bytes of which nothing is used.
func made(t *testing.T, place int, snapshot []int, bytes int) pack {
	t.Helper()
	x, code := txn.New(place, snapshot)
	if x == nil || code != api.OK {
		t.Fatalf("New(%d, %v): got %v", place, snapshot, code)
	}
	a, code := quota.New(api.Account{Quota: bytes, Open: 3})
	if code != api.OK || a.Begin() != api.OK {
		t.Fatal("no account")
	}
	return pack{x, a, &paper{place: place, snapshot: snapshot, quota: bytes, open: 1}}
}

// written is one to which all these must be done.
func written(t *testing.T, place int, snapshot []int, writes ...write) pack {
	t.Helper()
	m := made(t, place, snapshot, 1<<20)
	for _, w := range writes {
		m.do(t, place, w)
		same(t, "a write that must be taken", len(m.x.Writes()), len(m.p.writes()))
	}
	if t.Failed() {
		t.Fatal("no writes")
	}
	return m
}

// do does a write out of memory of its own, and holds the answer against the paper's.
func (m pack) do(t *testing.T, place int, w write) {
	t.Helper()
	if w.dead {
		same(t, fmt.Sprintf("Delete(%d, %.40q)", place, w.key), m.x.Delete(place, w.key, m.a), m.p.do(place, w))
		return
	}
	same(t, fmt.Sprintf("Put(%d, %.40q, %d bytes)", place, w.key, len(w.value)), m.x.Put(place, w.key, []byte(w.value), m.a), m.p.do(place, w))
}

func (m pack) end(t *testing.T) {
	t.Helper()
	same(t, "End", m.x.End(m.a), m.p.end())
}

// sameGet holds an answer of Get against the paper's, and what the source was asked for it.
func (m pack) sameGet(t *testing.T, what string, place int, key string, from *shelf) {
	t.Helper()
	var source txn.Source
	if from != nil {
		source, from.asked = from, nil
	}
	got, is, code := m.x.Get(place, key, source)
	value, found, want, asked := m.p.get(place, key, from)
	if string(got) != value || is != found || code != want {
		t.Errorf("%.200s: Get(%d, %.40q): got %.40q %v %d, want %.40q %v %d", what, place, key, got, is, code, value, found, want)
	}
	if from != nil {
		sameList(t, fmt.Sprintf("%.200s: what Get(%d, %.40q) asks", what, place, key), from.asked, asked)
	}
}

// sameScan holds an answer of Scan against the paper's, and what the source was asked for it, and how far it was gone through.
func (m pack) sameScan(t *testing.T, what string, place int, from, to string, limit int, on *shelf) {
	t.Helper()
	var source txn.Source
	if on != nil {
		source, on.asked, on.told, on.left = on, nil, nil, 0
	}
	got, more, code := m.x.Scan(place, from, to, limit, source)
	pairs, others, want, asked := m.p.scan(place, from, to, limit, on)
	what = fmt.Sprintf("%.200s: Scan(%d, %.40q, %.40q, %d)", what, place, from, to, limit)
	sameList(t, what, pairsOf(got), pairs)
	if more != others || code != want {
		t.Errorf("%s: got %v %d, want %v %d", what, more, code, others, want)
	}
	if on != nil {
		sameList(t, what+": what is asked", on.asked, asked)
		m.sameWay(t, what, place, from, to, limit, on)
	}
}

// sameWay holds how far a source was gone through against what need be: to the first pair that is not answered any more, and one further one beside those that were written over.
func (m pack) sameWay(t *testing.T, what string, place int, from, to string, limit int, on *shelf) {
	t.Helper()
	if len(on.told) == 0 {
		return
	}
	all := m.p.seen(place, from, to, on)
	if len(all) <= limit {
		same(t, what+": pairs that are told", len(on.told), len(on.pairs(from, to, m.p.snapshot[place])))
		return
	}
	beyond := 0
	for _, key := range on.told {
		if _, is := m.p.last(key); key > all[limit].key && (place != m.p.place || !is) {
			beyond++
		}
	}
	most := 0
	if place == m.p.place {
		most = 1
	}
	if beyond > most {
		t.Errorf("%s: gone through further than need be: %.300q", what, on.told)
	}
}

// holds holds what a transaction tells of itself, and its account, against the paper; it asks twice, since asking must change nothing.
func (m pack) holds(t *testing.T, what string) {
	t.Helper()
	for range 2 {
		same(t, what+": Place", m.x.Place(), m.p.place)
		sameList(t, what+": Snapshot", m.x.Snapshot(), m.p.snapshot)
		sameList(t, what+": Writes", writesOf(t, m.x.Writes()), m.p.writes())
		same(t, what+": Ended", m.x.Ended(), m.p.ended)
		same(t, what+": Pending", m.a.Pending(), m.p.pending())
		same(t, what+": Used", m.a.Used(), m.p.live+m.p.pending())
		same(t, what+": Open", m.a.Open(), m.p.open)
	}
	if t.Failed() {
		t.Fatal("behind: ", what)
	}
}

// reads holds Get and Scan of all places against the paper.
func (m pack) reads(t *testing.T, what string, shelves []*shelf) {
	t.Helper()
	for place, s := range shelves {
		for _, key := range someKeys() {
			m.sameGet(t, what, place, key, s)
		}
		for _, limit := range []int{1, 2, 3, 4, 100} {
			m.sameScan(t, what, place, "", "", limit, s)
			m.sameScan(t, what, place, "a", "d", limit, s)
		}
	}
}

// someKeys is keys that begin with one another, of all bytes, and the longest.
func someKeys() []string {
	return []string{"\x00", "a", "a\x00", "aa", "b", "c", "d", "e", "z", "\x80", "\xff", great(254), great(255)}
}

// few is writes of unlike keys: puts and deletes, with and without bytes, and over one another.
func few() []write {
	return []write{put("b", "old"), gone("c"), put("b", "new"), put("aa", ""), gone("a"), put("a\x00", "x"), put("d", "y"), gone("d"), gone("z"), put("z", "zz"), put("\xff", great(4096)), gone("e")}
}

// filled is a shelf with keys at, between and beside those of few, each with versions from unlike stamps on.
func filled() *shelf {
	s := shelfOf()
	for i, key := range []string{"a", "aa", "b", "bb", "c", "cc", "d", "dd", "y", "z", great(255)} {
		for _, stamp := range []int{1, 3 + i%2, 6, 9} {
			s.versions = append(s.versions, version{stamp, write{key: key, value: fmt.Sprint(key[:1], " at ", stamp), dead: (stamp+i)%5 == 0}})
		}
	}
	return s
}

// far is numbers beyond all bounds.
func far() []int {
	return []int{-1, -2, -1 << 32, -1 << 62, math.MinInt + 1, math.MinInt, 1 << 20, 1 << 31, 1 << 32, 1 << 62, math.MaxInt - 1, math.MaxInt}
}
