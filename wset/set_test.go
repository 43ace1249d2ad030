package wset_test

import (
	"fmt"
	"math/rand"
	"testing"

	"cloister/api"
	"cloister/wset"
)

// P16.1: a new set has no writes, and is there.
func TestNew(t *testing.T) {
	s := wset.New()
	if s == nil {
		t.Fatal("New: no set")
	}
	holds(t, "a new set", s, newPaper())
	same(t, "Put", s.Put("k", nil), api.OK)
	holds(t, "a new set goes on", s, newPaper(put("k", "")))
	holds(t, "another new set", wset.New(), newPaper())
}

// P16.1: a Set's zero value is a set without writes, from every call on.
func TestZeroValue(t *testing.T) {
	var s wset.Set
	holds(t, "a zero value", &s, newPaper())
	p := newPaper()
	for i, w := range few() {
		same(t, fmt.Sprintf("%#v", w), do(&s, w), p.do(w))
		holds(t, fmt.Sprint("a zero value, behind ", i), &s, p)
	}
	var z struct{ a, b wset.Set }
	same(t, "Delete", z.a.Delete("k"), api.OK)
	same(t, "Delete refused", z.b.Delete(""), api.ErrKey)
	holds(t, "a part, written", &z.a, newPaper(gone("k")))
	holds(t, "a part", &z.b, newPaper())
	sameList(t, "Over", walked(t, new(wset.Set).Over("", "", tellerOf(lower()...).all)), lower())
}

// P16.1: sets know nothing of each other, called in turns.
func TestApart(t *testing.T) {
	r := rand.New(rand.NewSource(161))
	sets := []*wset.Set{wset.New(), wset.New(), {}, wset.New()}
	papers := make([]paper, len(sets))
	for i := range 600 {
		at := r.Intn(len(sets))
		step(t, r, sets[at], &papers[at])
		if i%40 == 0 {
			for at := range sets {
				holds(t, fmt.Sprint("the set ", at), sets[at], &papers[at])
			}
		}
	}
}

// P16.2: each write that may be is the key's write, behind whatever others.
func TestPutAndDelete(t *testing.T) {
	s, p := wset.New(), newPaper()
	for i, w := range few() {
		same(t, fmt.Sprintf("%#v", w), do(s, w), p.do(w))
		holds(t, fmt.Sprint("behind ", i), s, p)
	}
	same(t, "all were taken", len(p.done), len(few()))
}

// P16.2: keys and values at their limits, with each other: which error, and that nothing has changed.
func TestLimits(t *testing.T) {
	keys := []struct {
		key string
		is  bool
	}{{"", false}, {"\x00", true}, {"k", true}, {"b", true}, {great(254), true}, {great(255), true}, {great(256), false}, {great(257), false}, {great(1 << 16), false}}
	values := []struct {
		value string
		is    bool
	}{{"", true}, {"v", true}, {great(255), true}, {great(256), true}, {great(4095), true}, {great(4096), true}, {great(4097), false}, {great(1 << 17), false}}
	for _, before := range [][]write{nil, few()} {
		for _, k := range keys {
			want := api.OK
			if !k.is {
				want = api.ErrKey
			}
			s, p := written(t, before...), newPaper(before...)
			same(t, fmt.Sprintf("Delete %.20q", k.key), s.Delete(k.key), want)
			same(t, "the paper", p.do(gone(k.key)), want)
			holds(t, fmt.Sprintf("behind Delete %.20q", k.key), s, p)
			for _, v := range values {
				want := want
				if k.is && !v.is {
					want = api.ErrValue
				}
				s, p := written(t, before...), newPaper(before...)
				same(t, fmt.Sprintf("Put %.20q of %d", k.key, len(v.value)), s.Put(k.key, []byte(v.value)), want)
				same(t, "the paper", p.do(put(k.key, v.value)), want)
				holds(t, fmt.Sprintf("behind Put %.20q of %d", k.key, len(v.value)), s, p)
			}
		}
	}
}

// P16.2: no key is told ahead of no value, of a set that is there, and of one that isn't nothing but that.
func TestOrderOfErrors(t *testing.T) {
	var none *wset.Set
	for _, key := range []string{"", great(256)} {
		same(t, "no key, no value", wset.New().Put(key, make([]byte, 4097)), api.ErrKey)
		same(t, "no set, no key, no value", none.Put(key, make([]byte, 4097)), api.ErrNil)
		same(t, "no set, no key", none.Delete(key), api.ErrNil)
	}
	same(t, "no value", wset.New().Put("k", make([]byte, 4097)), api.ErrValue)
	same(t, "no set, no value", none.Put("k", make([]byte, 4097)), api.ErrNil)
}

// P16.2, P16.4: of one key all rows of writes over one another, beside a write that stays.
func TestOverOneAnother(t *testing.T) {
	kinds := []write{put("k", ""), put("k", "v"), put("k", "www"), gone("k"), put("k", great(4097)), put("", "v"), gone("")}
	rows := [][]write{nil}
	for range 4 {
		var longer [][]write
		for _, row := range rows {
			s, p := written(t, put("j", "stays")), newPaper(put("j", "stays"))
			for _, w := range row {
				same(t, fmt.Sprintf("%.60s", fmt.Sprint(w)), do(s, w), p.do(w))
			}
			holds(t, fmt.Sprintf("behind %.200s", fmt.Sprint(row)), s, p)
			for _, w := range kinds {
				longer = append(longer, append(append([]write(nil), row...), w))
			}
		}
		rows = longer
	}
}

// P16.3: a put, a put without bytes, a delete, what was not written though others are like it.
func TestGet(t *testing.T) {
	s := written(t, put("ab", "22"), put("c", ""), gone("d"), put("e", "x"), gone("e"), gone("f"), put("f", "\x00"))
	rows := []struct {
		key string
		is  bool
		v   api.Version
	}{
		{"ab", true, api.Version{Key: "ab", Value: []byte("22")}},
		{"c", true, api.Version{Key: "c"}},
		{"d", true, api.Version{Key: "d", Dead: true}},
		{"e", true, api.Version{Key: "e", Dead: true}},
		{"f", true, api.Version{Key: "f", Value: []byte{0}}},
		{"", false, api.Version{}}, {"a", false, api.Version{}}, {"abc", false, api.Version{}}, {"ab\x00", false, api.Version{}}, {"AB", false, api.Version{}},
		{"b", false, api.Version{}}, {"\xff", false, api.Version{}}, {great(255), false, api.Version{}}, {great(256), false, api.Version{}},
	}
	for range 2 {
		for _, x := range rows {
			v, is := s.Get(x.key)
			if is != x.is || v.Key != x.v.Key || v.Stamp != 0 || string(v.Value) != string(x.v.Value) || v.Dead != x.v.Dead {
				t.Errorf("Get(%.20q): got %#v %v, want %#v %v", x.key, v, is, x.v, x.is)
			}
		}
	}
}

// P16.4: the weights from call to call.
func TestWeights(t *testing.T) {
	s := wset.New()
	rows := []struct {
		w                  write
		weight, bytes, len int
	}{
		{put("ab", "xyz"), 5, 5, 1},
		{put("c", ""), 1, 6, 2},
		{gone("def"), 3, 9, 3},
		{put("ab", ""), 2, 6, 3},
		{put("def", "1234567"), 10, 13, 3},
		{gone("ab"), 2, 13, 3},
		{gone("ab"), 2, 13, 3},
		{gone("def"), 3, 6, 3},
		{put("ab", great(4096)), 4098, 4102, 3},
		{put(great(255), great(4096)), 4351, 8453, 4},
		{gone(great(255)), 255, 4357, 4},
		{put("ab", "y"), 3, 262, 4},
	}
	for _, x := range rows {
		what := fmt.Sprintf("behind %.40s", fmt.Sprint(x.w))
		same(t, what, do(s, x.w), api.OK)
		for range 2 {
			same(t, what+": Weight", s.Weight(x.w.key), x.weight)
			same(t, what+": Bytes", s.Bytes(), x.bytes)
			same(t, what+": Len", s.Len(), x.len)
			same(t, what+": Weight of another key", s.Weight("a")+s.Weight("")+s.Weight("abc")+s.Weight(great(256)), 0)
			s.Put("", []byte("x"))
			s.Put(x.w.key, make([]byte, 4097))
			s.Delete("")
		}
	}
}

// P16.5: by key, rising, in whichever order they came: all orders of five, each a put or a delete.
func TestWrites(t *testing.T) {
	all := []write{put("\x00", "0"), gone("a"), put("a\x00", ""), put("b", "33"), gone("\xff")}
	var rows func(row, rest []write)
	rows = func(row, rest []write) {
		if len(rest) == 0 {
			sameList(t, fmt.Sprint("Writes of ", row), writesOf(t, written(t, row...).Writes()), all)
		}
		for i := range rest {
			left := append(append([]write(nil), rest[:i]...), rest[i+1:]...)
			rows(append(append([]write(nil), row...), rest[i]), left)
		}
	}
	rows(nil, all)
	same(t, "Writes of none", len(wset.New().Writes()), 0)
	sameList(t, "Writes of one", writesOf(t, written(t, gone("k")).Writes()), []write{gone("k")})
}

// P16.5: many writes by chance, told again and again in the same order.
func TestManyWrites(t *testing.T) {
	r := rand.New(rand.NewSource(165))
	for _, n := range []int{2, 3, 8, 9, 40, 500} {
		s, p := wset.New(), newPaper()
		for range n {
			key := make([]byte, 1+r.Intn(3))
			for i := range key {
				key[i] = byte(r.Intn(256))
			}
			w := write{key: string(key), dead: r.Intn(3) == 0}
			same(t, "a write", do(s, w), p.do(w))
		}
		want := p.writes()
		for range 5 {
			sameList(t, fmt.Sprint("Writes of ", n), writesOf(t, s.Writes()), want)
		}
	}
}

// P16.7: every call of a set that is not there.
func TestNone(t *testing.T) {
	var none *wset.Set
	for range 2 {
		for _, w := range append(few(), put("", "x"), gone(""), put("k", great(4097)), gone(great(256))) {
			same(t, fmt.Sprintf("%.40s", fmt.Sprint(w)), do(none, w), api.ErrNil)
		}
		holds(t, "none", none, newPaper())
		for _, from := range []string{"", "a", "c", great(256)} {
			for _, to := range []string{"", "b", "z", "\xff"} {
				sameList(t, "Over of none", walked(t, none.Over(from, to, tellerOf(lower()...).all)), lower())
				sameList(t, "Over of none, under none", walked(t, none.Over(from, to, tellerOf().all)), nil)
				sameList(t, "Over of none, no under", walked(t, none.Over(from, to, nil)), nil)
			}
		}
	}
	for most := range len(lower()) {
		u := tellerOf(lower()...)
		told := 0
		none.Over("b", "c", u.all)(func(p api.Pair) bool {
			same(t, "what under tells", pairOf(p), lower()[told])
			told++
			return told <= most
		})
		same(t, "told by none", told, most+1)
		same(t, "told by under", len(u.told) <= most+2, true)
		same(t, "under was left", u.left, 1)
	}
}
