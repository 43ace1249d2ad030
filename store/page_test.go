package store_test

import (
	"fmt"
	"math"
	"strings"
	"testing"

	"cloister/api"
	"cloister/store"
)

// spoil writes over all of a list, its spare room included.
func spoil(b []byte) {
	b = b[:cap(b)]
	for i := range b {
		b[i] = 0xee
	}
}

// Memory: what is handed to Apply is neither changed nor kept, its spare room included.
func TestApplyKeepsNothing(t *testing.T) {
	for _, n := range []int{0, 1, 3, 4096} {
		room := []byte(strings.Repeat("v", 5000))
		v := api.Version{Key: "k", Stamp: 3, Value: room[:n]}
		s := store.New()
		same(t, "Apply", s.Apply(v), api.OK)
		same(t, "Apply refused", s.Apply(v), api.ErrStamp)
		same(t, "what was handed in", string(room), strings.Repeat("v", 5000))
		spoil(room)
		holds(t, "behind spoiling", s, newPaper(put("k", 3, strings.Repeat("v", n))))
	}
}

// Memory: what is handed to Load is neither changed nor kept; one list may stand in several versions.
func TestLoadKeepsNothing(t *testing.T) {
	room := []byte("abcdefgh")
	list := make([]api.Version, 3, 5)
	list[0] = api.Version{Key: "b", Stamp: 1, Value: room[:3]}
	list[1] = api.Version{Key: "a", Stamp: 2, Value: room[2:4]}
	list[2] = api.Version{Key: "b", Stamp: 2, Value: room}
	spare := list[:5]
	spare[3] = api.Version{Key: "spare", Stamp: 7}
	s, code := store.Load(list)
	same(t, "Load", code, api.OK)
	sameList(t, "what was handed in", factsOf(spare), []fact{put("b", 1, "abc"), put("a", 2, "cd"), put("b", 2, "abcdefgh"), put("spare", 7, ""), {}})
	spoil(room)
	for i := range spare {
		spare[i] = api.Version{Key: "no", Stamp: -1}
	}
	holds(t, "behind spoiling", s, newPaper(put("b", 1, "abc"), put("a", 2, "cd"), put("b", 2, "abcdefgh")))
}

// Memory: what Get answers is new memory, spare room too: written over, and appended to, it changes nothing of the store nor of other answers.
func TestGetIsNew(t *testing.T) {
	for _, n := range []int{0, 1, 5, 4096} {
		value := strings.Repeat("v", n)
		s := stored(t, put("k", 3, value))
		a, _ := s.Get("k", 3)
		b, _ := s.Get("k", 9)
		spoil(a)
		same(t, "another answer", string(b), value)
		_ = append(b[:0], strings.Repeat("x", n+20)...)
		holds(t, "behind spoiling", s, newPaper(put("k", 3, value)))
	}
}

// Memory: so is each value that a walk tells, in its midst too, and each list of Versions.
func TestScanAndVersionsAreNew(t *testing.T) {
	s, p := stored(t, few()...), newPaper(few()...)
	var held [][]byte
	var want []string
	for range 2 {
		var got []pair
		for x := range s.Scan("", "", 4) {
			got = append(got, pair{x.Key, string(x.Value)})
			if len(got)%2 == 0 {
				spoil(x.Value)
				continue
			}
			held, want = append(held, x.Value), append(want, string(x.Value))
		}
		sameList(t, "a walk whose values are spoiled", got, p.scan("", "", 4))
	}
	one, two := s.Versions(), s.Versions()
	for i := range one {
		if i%2 == 0 {
			spoil(one[i].Value)
		}
	}
	for i := range one {
		if i%2 == 1 {
			same(t, "a list beside a spoiled one", string(one[i].Value), p.sorted()[i].value)
		}
	}
	for i := range one[:cap(one)] {
		one[:cap(one)][i] = api.Version{Key: "no"}
	}
	sameList(t, "another list", factsOf(two), p.sorted())
	for i := range held {
		same(t, "a value of a walk", string(held[i]), want[i])
	}
	holds(t, "behind spoiling", s, p)
}

// Memory: two versions with one value, of one key or two, share no memory.
func TestValuesShareNothing(t *testing.T) {
	value := []byte("vv")
	s := store.New()
	for _, key := range []string{"a", "b"} {
		for stamp := range 2 {
			same(t, "Apply", s.Apply(api.Version{Key: key, Stamp: stamp, Value: value}), api.OK)
		}
	}
	l := s.Versions()
	spoil(l[0].Value)
	same(t, "the others", string(l[1].Value)+string(l[2].Value)+string(l[3].Value), "vvvvvv")
	holds(t, "behind spoiling", s, newPaper(put("a", 0, "vv"), put("a", 1, "vv"), put("b", 0, "vv"), put("b", 1, "vv")))
}

// The page: nil and empty lists are the same, as values and as lists of versions.
func TestNilAndEmpty(t *testing.T) {
	for _, value := range [][]byte{nil, {}, make([]byte, 0, 9)} {
		for _, dead := range []bool{false, true} {
			s, code := store.Load([]api.Version{{Key: "k", Stamp: 1, Value: value, Dead: dead}})
			same(t, "Load", code, api.OK)
			holds(t, "without bytes", s, newPaper(fact{"k", 1, "", dead}))
			_, is := s.Get("k", 1)
			same(t, "found without bytes", is, !dead)
		}
	}
}

// W0: a zero value is no store that New made; its calls end, and none panics.
func TestZeroValueEnds(t *testing.T) {
	var s store.Store
	s.Get("k", 1)
	s.Newest("k")
	scanned(t, &s, "", "", 9)
	s.Vacuum(9)
	s.Live()
	s.Len()
	s.Versions()
	for _, f := range few() {
		s.Apply(versionOf(f))
	}
	other := s
	other.Apply(versionOf(put("b", 50, "")))
	other.Vacuum(60)
	scanned(t, &s, "", "", 9)
	s.Versions()
}

// W0: every call ends at arguments of every kind.
func TestEveryCallEnds(t *testing.T) {
	numbers := []int{math.MinInt, math.MinInt + 1, -1<<62 - 1, -1 << 32, -1, 0, 1, 1 << 32, 1 << 62, 1<<62 + 1, math.MaxInt - 1, math.MaxInt}
	texts := []string{"", "\x00", "a", "\xff", great(255), great(256), great(1 << 17)}
	for _, n := range numbers {
		for _, text := range texts {
			s, p := stored(t, few()...), newPaper(few()...)
			for _, dead := range []bool{false, true} {
				for _, value := range []string{"", "v", great(4097), great(1 << 17)} {
					f := fact{text, n, value, dead}
					same(t, "Apply", s.Apply(versionOf(f)), p.apply(f))
				}
			}
			for _, to := range texts {
				for _, m := range numbers {
					sameList(t, "Scan", scanned(t, s, text, to, m), p.scan(text, to, m))
					sameGet(t, "Get", s, p, text, m)
				}
			}
			same(t, "Vacuum", s.Vacuum(n), p.vacuum(n))
			sameList(t, "Versions", factsOf(s.Versions()), p.sorted())
		}
	}
}

// told is a list of pairs as the chapter writes it.
func told(pairs []pair) string {
	var all []string
	for _, x := range pairs {
		all = append(all, strings.TrimSpace(x.key+" "+x.value))
	}
	return strings.Join(all, ", ")
}

// The chapter's examples, one behind the other.
func TestExamples(t *testing.T) {
	s := store.New()
	for _, x := range []struct {
		f    fact
		want api.Errno
	}{
		{put("", 1, ""), api.ErrKey}, {put("k", -1, ""), api.ErrArg}, {put("k", 1<<62+1, ""), api.ErrArg}, {fact{"k", 1, "\x07", true}, api.ErrValue},
		{put("b", 2, "\x14"), api.OK}, {put("a", 3, "\x1e"), api.OK}, {gone("b", 5), api.OK}, {put("b", 5, "\x01"), api.ErrStamp}, {put("c", 4, ""), api.OK},
	} {
		same(t, fmt.Sprint("Apply ", x.f), s.Apply(versionOf(x.f)), x.want)
	}
	get := func(key string, stamp int) string {
		b, is := s.Get(key, stamp)
		return fmt.Sprint(b, is)
	}
	same(t, "Get", strings.Join([]string{get("b", 1), get("b", 2), get("b", 4), get("b", 5), get("c", 9), get("d", 9)}, "; "), "[] false; [20] true; [20] true; [] false; [] true; [] false")
	n, is := s.Newest("b")
	same(t, "Newest", fmt.Sprint(n, is), "5 true")
	sameSizes(t, "the sizes", s, 3, 3, 4)
	scan := func(from, to string, stamp int) string { return told(scanned(t, s, from, to, stamp)) }
	same(t, "Scan", strings.Join([]string{scan("", "", 4), scan("", "", 5), scan("b", "c", 4), scan("c", "b", 9)}, "; "), "a \x1e, b \x14, c; a \x1e, c; b \x14; ")
	same(t, "Vacuum", fmt.Sprint(s.Vacuum(4), s.Vacuum(5), s.Vacuum(5)), "0 1 0")
	sameSizes(t, "the sizes behind Vacuum", s, 3, 3, 3)
	same(t, "Get behind Vacuum", get("b", 4), "[] false")
	n, is = s.Newest("b")
	same(t, "Newest behind Vacuum", fmt.Sprint(n, is), "5 true")
	sameList(t, "Versions", factsOf(s.Versions()), []fact{put("a", 3, "\x1e"), gone("b", 5), put("c", 4, "")})
	_, code := store.Load(versionsOf([]fact{put("k", 2, ""), put("k", 2, "")}))
	same(t, "Load", code, api.ErrStamp)
}
