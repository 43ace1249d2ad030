package wset_test

import (
	"fmt"
	"slices"
	"strings"
	"testing"

	"cloister/api"
	"cloister/wset"
)

// spoil writes over all of a list, its spare room included.
func spoil(b []byte) {
	b = b[:cap(b)]
	for i := range b {
		b[i] = 0xee
	}
}

// P16.10, memory: what is handed to Put is neither changed nor kept, its spare room included, taken or refused.
func TestPutKeepsNothing(t *testing.T) {
	for _, n := range []int{0, 1, 3, 4096} {
		room := []byte(strings.Repeat("v", 5000))
		s := wset.New()
		same(t, "Put", s.Put("k", room[:n]), api.OK)
		same(t, "Put refused", s.Put("", room[:n]), api.ErrKey)
		same(t, "Put refused", s.Put("k", room), api.ErrValue)
		s.Writes()
		walked(t, s.Over("", "", nil))
		same(t, "what was handed in", string(room), strings.Repeat("v", 5000))
		spoil(room)
		holds(t, "behind spoiling", s, newPaper(put("k", strings.Repeat("v", n))))
	}
}

// P16.10, memory: one value handed in for two keys stands twice.
func TestValuesShareNothing(t *testing.T) {
	value := []byte("vv")
	s := wset.New()
	for _, key := range []string{"a", "b", "c"} {
		same(t, "Put", s.Put(key, value), api.OK)
	}
	l := s.Writes()
	spoil(l[0].Value)
	same(t, "the others", string(l[1].Value)+string(l[2].Value), "vvvv")
	v, _ := s.Get("b")
	spoil(v.Value)
	holds(t, "behind spoiling", s, newPaper(put("a", "vv"), put("b", "vv"), put("c", "vv")))
}

// P16.10, memory: what Get and Writes tell is new memory each time, spare room too: written over, and appended to, it changes nothing of the set nor of other answers.
func TestGetAndWritesAreNew(t *testing.T) {
	for _, n := range []int{0, 1, 5, 4096} {
		value := strings.Repeat("v", n)
		s, p := written(t, put("j", value), put("k", value), gone("l")), newPaper(put("j", value), put("k", value), gone("l"))
		a, _ := s.Get("k")
		b, _ := s.Get("k")
		one, two := s.Writes(), s.Writes()
		spoil(a.Value)
		same(t, "another answer", string(b.Value), value)
		_ = append(b.Value[:0], strings.Repeat("x", n+20)...)
		spoil(one[1].Value)
		same(t, "beside a spoiled one", string(one[0].Value), value)
		for i := range one[:cap(one)] {
			one[:cap(one)][i] = api.Version{Key: "no"}
		}
		sameList(t, "another list", writesOf(t, two), p.writes())
		holds(t, "behind spoiling", s, p)
	}
}

// P16.10, memory: so is each value of the set that a walk tells, in its midst too, and behind it.
func TestOverTellsNewValues(t *testing.T) {
	s, p := written(t, few()...), newPaper(few()...)
	var held [][]byte
	var want []string
	for range 2 {
		var got []pair
		for x := range s.Over("", "", nil) {
			got = append(got, pairOf(x))
			if len(got)%2 == 0 {
				spoil(x.Value)
				continue
			}
			held, want = append(held, x.Value), append(want, string(x.Value))
		}
		sameList(t, "a walk whose values are spoiled", got, p.over("", "", nil))
	}
	for i := range held {
		same(t, "a value of a walk", string(held[i]), want[i])
		spoil(held[i])
	}
	holds(t, "behind spoiling", s, p)
}

// P16.10: a pair of under is told with under's own value, not with a copy, and is not changed.
func TestOverTellsUndersOwnValues(t *testing.T) {
	for _, s := range []*wset.Set{nil, wset.New(), {}, written(t, few()...)} {
		u := tellerOf(lower()...)
		for i := range u.pairs {
			u.pairs[i].Value = append(make([]byte, 0, 9), u.pairs[i].Value...)
		}
		var p paper
		for _, v := range s.Writes() {
			p.do(write{v.Key, string(v.Value), v.Dead})
		}
		for x := range s.Over("a", "d", u.all) {
			if _, is := p.last(x.Key); is {
				spoil(x.Value)
				continue
			}
			at := slices.IndexFunc(u.pairs, func(y api.Pair) bool { return y.Key == x.Key })
			own := u.pairs[at].Value
			same(t, "its room", cap(x.Value), cap(own))
			same(t, "its own value", &x.Value[:1][0] == &own[:1][0] && len(x.Value) == len(own), true)
		}
		for i, x := range u.pairs {
			same(t, "under's pairs", pairOf(x), lower()[i])
		}
	}
}

// The page: nil and empty lists are the same.
func TestNilAndEmpty(t *testing.T) {
	for _, value := range [][]byte{nil, {}, make([]byte, 0, 9)} {
		s := written(t, gone("k"))
		same(t, "Put", s.Put("k", value), api.OK)
		holds(t, "without bytes", s, newPaper(put("k", "")))
		sameList(t, "Over", walked(t, s.Over("", "", slices.Values([]api.Pair{{Key: "j", Value: value}, {Key: "k", Value: value}}))), []pair{{"j", ""}, {"k", ""}})
	}
}

// W0: every call ends at arguments of every kind.
func TestEveryCallEnds(t *testing.T) {
	texts := []string{"", "\x00", "a", "b", "\xff", great(255), great(256), great(1 << 17)}
	for _, key := range texts {
		for _, n := range []int{0, 1, 4096, 4097, 1 << 17} {
			for _, before := range [][]write{nil, few()} {
				s, p := written(t, before...), newPaper(before...)
				same(t, "Put", s.Put(key, make([]byte, n)), p.do(put(key, string(make([]byte, n)))))
				same(t, "Delete", s.Delete(key+key), p.do(gone(key+key)))
				sameGet(t, "Get", s, p, key)
				for _, to := range texts {
					sameList(t, "Over", walked(t, s.Over(key, to, tellerOf(lower()...).all)), p.over(key, to, lower()))
				}
			}
		}
	}
}

// W0: a copy of a set is none that a call made; its calls end, and none panics.
func TestCopyEnds(t *testing.T) {
	s := written(t, few()...)
	for _, other := range []wset.Set{*s, *new(wset.Set)} {
		other.Put("k", []byte("v"))
		other.Delete("b")
		other.Get("k")
		other.Weight("k")
		other.Bytes()
		other.Len()
		other.Writes()
		walked(t, other.Over("a", "z", tellerOf(lower()...).all))
	}
	s.Writes()
}

// shown is a version and whether it is there as the chapter writes them.
func shown(v api.Version, is bool) string {
	switch {
	case !is:
		return "false"
	case v.Dead:
		return fmt.Sprint(v.Key, " ", v.Stamp, " dead")
	}
	return fmt.Sprintf("%s %d %q", v.Key, v.Stamp, v.Value)
}

// over is what Over tells, as the chapter writes it.
func over(t *testing.T, s *wset.Set, from, to string, pairs ...pair) string {
	t.Helper()
	var all []string
	for _, x := range walked(t, s.Over(from, to, tellerOf(pairs...).all)) {
		all = append(all, fmt.Sprintf("%s %q", x.key, x.value))
	}
	return strings.Join(all, ", ")
}

// The chapter's examples, one behind the other.
func TestExamples(t *testing.T) {
	s := wset.New()
	same(t, "the first writes", fmt.Sprint(int(s.Put("b", []byte("22"))), int(s.Put("a", []byte("1"))), int(s.Delete("c")), s.Len(), s.Bytes()), "0 0 0 3 6")
	same(t, "what is refused", fmt.Sprint(int(s.Put("", []byte("x"))), int(s.Put("k", make([]byte, 4097))), int(s.Delete(great(256))), int(s.Put("", make([]byte, 4097)))), "140 141 140 140")
	same(t, "Get", strings.Join([]string{shown(s.Get("b")), shown(s.Get("c")), shown(s.Get("d"))}, "; "), `b 0 "22"; c 0 dead; false`)
	same(t, "Weight", fmt.Sprint(s.Weight("b"), s.Weight("c"), s.Weight("d")), "3 1 0")
	same(t, "the next writes", fmt.Sprint(int(s.Delete("b")), int(s.Put("c", nil)), s.Bytes()), "0 0 4")
	sameList(t, "Writes", writesOf(t, s.Writes()), []write{put("a", "1"), gone("b"), put("c", "")})
	same(t, "Over none", over(t, s, "", ""), `a "1", c ""`)
	same(t, "Over", over(t, s, "", "", pair{"a", "x"}, pair{"b", "y"}, pair{"bb", "z"}, pair{"d", "w"}), `a "1", bb "z", c "", d "w"`)
	same(t, "Over a range", over(t, s, "b", "c", pair{"b", "y"}, pair{"bb", "z"}), `bb "z"`)
	same(t, "Over more than the range", over(t, s, "b", "", pair{"a", "x"}, pair{"aa", "q"}, pair{"b", "y"}), `aa "q", c ""`)
	var none *wset.Set
	same(t, "Put to none", none.Put("", []byte("x")), api.ErrNil)
	same(t, "Over of none", over(t, none, "", "", pair{"a", "x"}), `a "x"`)
}
