package wset_test

import (
	"fmt"
	"iter"
	"math/rand"
	"slices"
	"sort"
	"strings"
	"testing"

	"cloister/api"
	"cloister/wset"
)

// P16.6: from and to every bound, over pairs at, between, below and above the set's keys, within the range and outside of it.
func TestOver(t *testing.T) {
	s, p := written(t, few()...), newPaper(few()...)
	for _, from := range bounds() {
		for _, to := range bounds() {
			what := fmt.Sprintf("Over(%.20q, %.20q)", from, to)
			sameList(t, what, walked(t, s.Over(from, to, tellerOf(lower()...).all)), p.over(from, to, lower()))
			sameList(t, what+" of an empty under", walked(t, s.Over(from, to, tellerOf().all)), p.over(from, to, nil))
			sameList(t, what+" of no under", walked(t, s.Over(from, to, nil)), p.over(from, to, nil))
			var within []pair
			for _, x := range lower() {
				if inRange(x.key, from, to) {
					within = append(within, x)
				}
			}
			sameList(t, what+" within", walked(t, s.Over(from, to, tellerOf(within...).all)), p.over(from, to, within))
		}
	}
	holds(t, "behind walks", s, p)
}

// P16.6: what each bound means, said by hand: a to that is empty bounds nothing, from is in the range, to isn't.
func TestOverBounds(t *testing.T) {
	s := written(t, put("a", "1"), put("b", "2"), gone("c"), put("d", "4"), put("\xff", "5"))
	lower := []pair{{"", "l"}, {"A", "m"}, {"a", "n"}, {"bb", "o"}, {"c", "p"}, {"cc", "q"}, {"\xff\xff", "r"}}
	rows := []struct{ from, to, want string }{
		{"", "", "[{ l} {A m} {a 1} {b 2} {bb o} {cc q} {d 4} {\xff 5} {\xff\xff r}]"},
		{"a", "", "[{ l} {A m} {a 1} {b 2} {bb o} {cc q} {d 4} {\xff 5} {\xff\xff r}]"},
		{"a\x00", "", "[{ l} {A m} {b 2} {bb o} {cc q} {d 4} {\xff 5} {\xff\xff r}]"},
		{"b", "d", "[{ l} {A m} {b 2} {bb o} {cc q} {\xff\xff r}]"},
		{"b", "d\x00", "[{ l} {A m} {b 2} {bb o} {cc q} {d 4} {\xff\xff r}]"},
		{"", "a", "[{ l} {A m} {bb o} {cc q} {\xff\xff r}]"},
		{"", "a\x00", "[{ l} {A m} {a 1} {bb o} {cc q} {\xff\xff r}]"},
		{"\xff", "", "[{ l} {A m} {bb o} {cc q} {\xff 5} {\xff\xff r}]"},
		{"\xff\x00", "", "[{ l} {A m} {bb o} {cc q} {\xff\xff r}]"},
		{"b", "b", "[{ l} {A m} {bb o} {cc q} {\xff\xff r}]"},
		{"d", "a", "[{ l} {A m} {bb o} {cc q} {\xff\xff r}]"},
	}
	for _, x := range rows {
		same(t, fmt.Sprintf("Over(%q, %q)", x.from, x.to), fmt.Sprint(walked(t, s.Over(x.from, x.to, tellerOf(lower...).all))), x.want)
	}
}

// rowsOf is all rows of n things, each one of some.
func rowsOf[T any](n int, of ...T) [][]T {
	rows := [][]T{nil}
	for range n {
		var longer [][]T
		for _, row := range rows {
			for _, x := range of {
				longer = append(longer, append(slices.Clone(row), x))
			}
		}
		rows = longer
	}
	return rows
}

// states is each way in which the keys 1 to n are put, deleted or not written.
func states(n int) (all [][]write) {
	for _, row := range rowsOf(n, 0, 1, 2) {
		var writes []write
		for i, state := range row {
			key := fmt.Sprint(i + 1)
			switch state {
			case 1:
				writes = append(writes, put(key, "set"))
			case 2:
				writes = append(writes, gone(key))
			}
		}
		all = append(all, writes)
	}
	return all
}

// lowers is each way in which the keys 1 to n are told, or not.
func lowers(n int) (all [][]pair) {
	for _, row := range rowsOf(n, false, true) {
		var pairs []pair
		for i, is := range row {
			if is {
				pairs = append(pairs, pair{fmt.Sprint(i + 1), "under"})
			}
		}
		all = append(all, pairs)
	}
	return all
}

// P16.6: four keys, each put, deleted or not, told by under or not, in each range that tells them apart.
func TestOverSmall(t *testing.T) {
	for _, writes := range states(4) {
		s, p := written(t, writes...), newPaper(writes...)
		for _, pairs := range lowers(4) {
			for _, from := range []string{"", "1", "2", "3", "4", "5"} {
				for _, to := range []string{"", "1", "2", "3", "4", "5"} {
					what := fmt.Sprintf("%v Over(%q, %q) of %v", writes, from, to, pairs)
					sameList(t, what, walked(t, s.Over(from, to, tellerOf(pairs...).all)), p.over(from, to, pairs))
				}
			}
		}
	}
}

// leaves leaves a walk behind each number of pairs: it tells what it tells whole, not a pair more, and under has told no more than one pair beyond the last one told, those that the set has written not counted; it was left if it wasn't at its end.
func leaves(t *testing.T, what string, s *wset.Set, p *paper, from, to string, pairs []pair) {
	t.Helper()
	want := p.over(from, to, pairs)
	for most := 1; most <= len(want); most++ {
		u := tellerOf(pairs...)
		var got []pair
		s.Over(from, to, u.all)(func(x api.Pair) bool {
			got = append(got, pairOf(x))
			return len(got) < most
		})
		sameList(t, what, got, want[:most])
		beyond := 0
		for _, x := range u.told {
			if _, is := p.last(x.key); !is && x.key > want[most-1].key {
				beyond++
			}
		}
		if beyond > 1 {
			t.Errorf("%.200s, left behind %d: under told %.300s", what, most, fmt.Sprint(u.told))
		}
		same(t, what+": begun", u.begun, 1)
		same(t, what+": left, or at the end", u.left+u.ended, 1)
	}
}

// P16.6: left early, at each pair: of all small sets over all small unders.
func TestOverLeft(t *testing.T) {
	for _, writes := range states(5) {
		s, p := written(t, writes...), newPaper(writes...)
		for _, pairs := range lowers(5) {
			for _, bound := range [][2]string{{"", ""}, {"2", ""}, {"", "4"}, {"2", "5"}, {"4", "2"}} {
				leaves(t, fmt.Sprintf("%v Over(%q, %q) of %v", writes, bound[0], bound[1], pairs), s, p, bound[0], bound[1], pairs)
			}
		}
	}
}

// P16.6: left early, at each pair, by a break.
func TestOverLeftByBreak(t *testing.T) {
	s, p := written(t, few()...), newPaper(few()...)
	for _, bound := range [][2]string{{"", ""}, {"a\x00", "c"}, {"b", ""}, {"", "b"}, {"z", "a"}} {
		want := p.over(bound[0], bound[1], lower())
		all := s.Over(bound[0], bound[1], tellerOf(lower()...).all)
		for most := range len(want) + 2 {
			var got []pair
			for x := range all {
				got = append(got, pairOf(x))
				if len(got) >= most {
					break
				}
			}
			sameList(t, "left early", got, want[:min(max(most, 1), len(want))])
		}
		sameList(t, "whole, behind all that", walked(t, all), want)
		leaves(t, fmt.Sprint("Over of ", bound), s, p, bound[0], bound[1], lower())
	}
	holds(t, "behind walks", s, p)
}

// endless tells pairs that rise, without an end.
func endless(yield func(api.Pair) bool) {
	for i := 0; yield(api.Pair{Key: fmt.Sprintf("%09d", i)}); i++ {
	}
}

// P16.6: also an under without an end may be left.
func TestOverOfAnEndlessUnder(t *testing.T) {
	s := written(t, put("000000001", "x"), gone("000000003"), put("0000000045", "y"), put("z", "never"))
	var got []pair
	for x := range s.Over("", "", endless) {
		if got = append(got, pairOf(x)); len(got) == 6 {
			break
		}
	}
	sameList(t, "the first ones", got, []pair{{"000000000", ""}, {"000000001", "x"}, {"000000002", ""}, {"000000004", ""}, {"0000000045", "y"}, {"000000005", ""}})
}

// P16.6: what is told is told as it is asked for, not ahead of that: the walk of a put that stands ahead of all does not go through under first.
func TestOverIsNotToldAhead(t *testing.T) {
	s, p := written(t, put("0", "first"), put("35", "between"), gone("2"), put("9", "last")), newPaper(put("0", "first"), put("35", "between"), gone("2"), put("9", "last"))
	pairs := []pair{{"1", ""}, {"2", ""}, {"3", ""}, {"4", ""}, {"5", ""}}
	u := tellerOf(pairs...)
	told := 0
	for x := range s.Over("", "", u.all) {
		same(t, "a pair", pairOf(x), p.over("", "", pairs)[told])
		told++
		beyond := 0
		for _, y := range u.told {
			if y.key > x.Key && y.key != "2" {
				beyond++
			}
		}
		if beyond > 1 {
			t.Errorf("at %v under told %v", pairOf(x), u.told)
		}
	}
	same(t, "told", told, 7)
}

// P16.6: each walk begins anew, by an under whose walks begin anew; one that is told once is told once.
func TestOverBegunAnew(t *testing.T) {
	s, p := written(t, few()...), newPaper(few()...)
	u := tellerOf(lower()...)
	all := s.Over("a", "d", u.all)
	same(t, "Over alone begins no walk", u.begun, 0)
	for i := range 3 {
		sameList(t, "whole", walked(t, all), p.over("a", "d", lower()))
		same(t, "begun", u.begun, i+1)
		same(t, "ended", u.ended, i+1)
	}
	u.pairs = u.pairs[4:7]
	sameList(t, "another under", walked(t, all), p.over("a", "d", lower()[4:7]))
	spent := false
	once := s.Over("", "", func(yield func(api.Pair) bool) {
		if !spent {
			spent = true
			yield(api.Pair{Key: "new"})
		}
	})
	sameList(t, "once", walked(t, once), p.over("", "", []pair{{"new", ""}}))
	sameList(t, "no more", walked(t, once), p.over("", "", nil))
}

// P16.6: it goes by the set as it is when the walk begins, not by what it was when Over was called.
func TestOverAsItIsAtTheBeginning(t *testing.T) {
	s, p := wset.New(), newPaper()
	all, part := s.Over("", "", tellerOf(lower()...).all), s.Over("a\x00", "c", tellerOf(lower()...).all)
	for i, w := range append(few(), gone("b"), gone("a"), put("z", "!")) {
		same(t, "a write", do(s, w), p.do(w))
		sameList(t, fmt.Sprint("all, behind ", i), walked(t, all), p.over("", "", lower()))
		sameList(t, fmt.Sprint("a part, behind ", i), walked(t, part), p.over("a\x00", "c", lower()))
	}
}

// changes is what becomes of a set in the midst of a walk, as the writes that are done to it.
func changes() map[string]func(p *paper, i int) []write {
	each := func(w write) func(p *paper, i int) []write {
		return func(p *paper, i int) (all []write) {
			for _, x := range append(p.writes(), writesAt(lower())...) {
				w.key = x.key
				all = append(all, w)
			}
			return all
		}
	}
	return map[string]func(p *paper, i int) []write{
		"a key behind all":  func(p *paper, i int) []write { return []write{put("\xff\xff\xff", fmt.Sprint(i))} },
		"a key ahead":       func(p *paper, i int) []write { return []write{put("\x00", fmt.Sprint(i))} },
		"keys between":      func(p *paper, i int) []write { return []write{put("b"+fmt.Sprint(i), "new"), gone("e")} },
		"all deleted":       each(write{dead: true}),
		"all put":           each(write{value: "new"}),
		"all without bytes": each(write{}),
		"refused":           func(p *paper, i int) []write { return []write{put("", "x"), gone(great(256)), put("a", great(4097))} },
		"as long as they were": func(p *paper, i int) (all []write) {
			for _, x := range p.writes() {
				all = append(all, put(x.key, strings.Repeat("~", len(x.value))))
			}
			return all
		},
		"many": func(p *paper, i int) (all []write) {
			for j := range 50 {
				all = append(all, put(fmt.Sprint("b", i, j), "new"))
			}
			return all
		},
	}
}

// writesAt is deletes at the keys of pairs that may be written.
func writesAt(pairs []pair) (all []write) {
	for _, x := range pairs {
		if len(x.key) > 0 && len(x.key) < 256 {
			all = append(all, gone(x.key))
		}
	}
	return all
}

// P16.6: what is written in the midst of a walk, by the one who walks or by under, changes nothing of that walk, and all of the next one.
func TestOverWhileTheSetGoesOn(t *testing.T) {
	for what, change := range changes() {
		for _, bound := range [][2]string{{"", ""}, {"a", "c"}} {
			for begin := range 8 {
				for _, byUnder := range []bool{false, true} {
					s, p := written(t, few()...), newPaper(few()...)
					want := p.over(bound[0], bound[1], lower())
					steps := 0
					goOn := func(is bool) {
						if steps++; is && steps > begin {
							for _, w := range change(p, steps) {
								same(t, what, do(s, w), p.do(w))
							}
						}
					}
					u := tellerOf(lower()...)
					all := s.Over(bound[0], bound[1], func(yield func(api.Pair) bool) {
						for x := range u.all {
							goOn(byUnder)
							if !yield(x) {
								return
							}
						}
					})
					var got []pair
					for x := range all {
						got = append(got, pairOf(x))
						goOn(!byUnder)
					}
					sameList(t, what, got, want)
					holds(t, what+": behind the walk", s, p)
					sameList(t, what+": the next walk", walked(t, s.Over(bound[0], bound[1], u.all)), p.over(bound[0], bound[1], lower()))
				}
			}
		}
	}
}

// P16.6: walks within one another, and two in turns, between which the set goes on.
func TestOverWithin(t *testing.T) {
	s := written(t, put("a", "1"), put("c", "3"))
	all := s.Over("", "", tellerOf(pair{"b", "2"}, pair{"c", "u"}, pair{"d", "4"}).all)
	told := ""
	for x := range all {
		told += x.Key + string(x.Value) + ":"
		for y := range all {
			told += y.Key + string(y.Value)
			if y.Key == "c" {
				break
			}
		}
		do(s, gone(x.Key))
		told += " "
	}
	same(t, "within", told, "a1:a1b2c3 b2:b2c3 c3:c3 d4:d4 ")
	same(t, "behind", len(walked(t, all)), 0)
	one, leaveOne := iter.Pull(written(t, put("a", "1")).Over("", "", tellerOf(lower()...).all))
	defer leaveOne()
	two, leaveTwo := iter.Pull(written(t, gone("a"), put("\x01", "2")).Over("", "", tellerOf(lower()...).all))
	defer leaveTwo()
	turns := ""
	for range 6 {
		x, _ := one()
		y, _ := two()
		turns += fmt.Sprintf("%q %q ", x.Key, y.Key)
	}
	same(t, "in turns", turns, `"" "" "\x00" "\x00" "\x00\x00" "\x00\x00" "Z" "\x01" "a" "Z" "a\x00" "a\x00" `)
}

// P16.6: of an under whose keys do not rise the walk ends, gone through whole and left at each pair.
func TestOverOfAnUnderThatDoesNotRise(t *testing.T) {
	r := rand.New(rand.NewSource(166))
	falling := lower()
	slices.Reverse(falling)
	unders := [][]pair{falling, {{"b", "1"}, {"b", "2"}, {"b", "3"}}, {{"z", ""}, {"a", ""}}, {{"", ""}, {"", ""}}, {{"q", "1"}, {"q", "1"}}}
	for range 200 {
		var pairs []pair
		for range r.Intn(12) {
			pairs = append(pairs, lower()[r.Intn(len(lower()))])
		}
		unders = append(unders, pairs)
	}
	for _, pairs := range unders {
		for _, bound := range [][2]string{{"", ""}, {"a", "c"}, {"z", "a"}} {
			s, p := written(t, few()...), newPaper(few()...)
			all := s.Over(bound[0], bound[1], tellerOf(pairs...).all)
			whole := walked(t, all)
			for most := 1; most <= len(whole); most++ {
				told := 0
				all(func(api.Pair) bool { told++; return told < most })
				same(t, "told", told, most)
			}
			holds(t, "behind it", s, p)
		}
	}
}

// W0: an under that goes on when it was left does no harm: it is left wherever it was, and the walk tells no more.
func TestOverOfAnUnderThatGoesOn(t *testing.T) {
	s, p := written(t, few()...), newPaper(few()...)
	want := p.over("", "", lower())
	all := s.Over("", "", func(yield func(api.Pair) bool) {
		for x := range tellerOf(lower()...).all {
			yield(x)
		}
	})
	sameList(t, "whole", walked(t, all), want)
	for most := 1; most <= len(want); most++ {
		var got []pair
		for x := range all {
			if got = append(got, pairOf(x)); len(got) == most {
				break
			}
		}
		sameList(t, "left", got, want[:most])
	}
	holds(t, "behind it", s, p)
}

// P16.6: one who walks and gives up by a panic leaves the set as it was, and under is left.
func TestOverGivenUp(t *testing.T) {
	s, left := written(t, few()...), 0
	for range 3 {
		func() {
			defer func() { same(t, "given up", recover(), any("enough")) }()
			for range s.Over("", "", func(yield func(api.Pair) bool) {
				defer func() { left++ }()
				tellerOf(lower()...).all(yield)
			}) {
				panic("enough")
			}
		}()
	}
	same(t, "left", left, 3)
	holds(t, "behind a walk that was given up", s, newPaper(few()...))
}

// P16.6: a set over a set over pairs: each is laid over what the walk below it tells.
func TestOverOverOver(t *testing.T) {
	low, high := written(t, few()...), written(t, gone("b"), put("bb", "high"), put("\x01", "high"), gone("Z"))
	first := newPaper(few()...).over("a", "", lower())
	want := newPaper(gone("b"), put("bb", "high"), put("\x01", "high"), gone("Z")).over("", "c", first)
	all := high.Over("", "c", low.Over("a", "", tellerOf(lower()...).all))
	for range 2 {
		sameList(t, "one over the other", walked(t, all), want)
		for most := 1; most <= len(want); most++ {
			told := 0
			all(func(x api.Pair) bool { same(t, "a pair", pairOf(x), want[told]); told++; return told < most })
			same(t, "told", told, most)
		}
	}
	own := low.Over("", "", low.Over("", "", nil))
	sameList(t, "over itself", walked(t, own), newPaper(few()...).over("", "", nil))
}

// P16.6: a great set over many pairs, in the order of the keys.
func TestOverMany(t *testing.T) {
	const many = 3000
	s, want := wset.New(), map[string]string{}
	u := &teller{}
	for i := range many {
		key := fmt.Sprintf("%05d", i*7%many)
		switch i % 3 {
		case 0:
			s.Put(key, []byte(key))
			want[key] = key
		case 1:
			s.Delete(key)
		default:
			want[key] = ""
		}
		u.pairs = append(u.pairs, api.Pair{Key: key})
	}
	sort.Slice(u.pairs, func(i, j int) bool { return u.pairs[i].Key < u.pairs[j].Key })
	got := walked(t, s.Over("", "", u.all))
	same(t, "how many", len(got), len(want))
	for i, x := range got {
		value, is := want[x.key]
		same(t, "is told", is && value == x.value && (i == 0 || got[i-1].key < x.key), true)
	}
}
