package chain_test

import (
	"fmt"
	"math"
	"strings"
	"testing"

	"cloister/api"
	"cloister/chain"
)

// Words: lists are kept and told as they are: the very same one, spare room too.
func TestLists(t *testing.T) {
	room := []int{1, 2, 3, 4}
	c := chained(t, chain.Link[[]int]{Stamp: 0, Value: room[:2]}, chain.Link[[]int]{Stamp: 1}, chain.Link[[]int]{Stamp: 2, Value: []int{}}, chain.Link[[]int]{Stamp: 3, Value: room[1:3], Dead: true})
	x, is := c.At(0)
	same(t, "is there a link at 0", is, true)
	same(t, "At's memory", &x.Value[0], &room[0])
	same(t, "At's length and room", fmt.Sprint(len(x.Value), cap(x.Value)), fmt.Sprint(2, cap(room)))
	room[1] = 9
	for y := range c.All() {
		if y.Stamp == 0 {
			same(t, "a walk's memory", &y.Value[0], &room[0])
			same(t, "a walk's value", y.Value[1], 9)
		}
	}
	x, _ = c.At(1)
	same(t, "none is told as none", x.Value == nil, true)
	x, _ = c.At(2)
	same(t, "an empty one is told as an empty one", x.Value != nil && len(x.Value) == 0, true)
	x, is = c.Last()
	same(t, "a dead link's value", is && x.Dead && &x.Value[0] == &room[1], true)
	same(t, "Prune", c.Prune(3), 3)
	x, _ = c.Last()
	same(t, "behind Prune", &x.Value[1], &room[2])
	x, is = c.At(2)
	same(t, "beside a false", x.Value == nil && !is, true)
	same(t, "what the lists hold", fmt.Sprint(room), "[1 9 3 4]")
}

// Words: pointers are kept and told as they are; the same one twice too, and one that points to nothing.
func TestPointers(t *testing.T) {
	a, b := &api.Request{Kind: api.Get, Key: "a"}, &api.Request{Kind: api.Get, Key: "a"}
	links := []chain.Link[*api.Request]{{Stamp: 1, Value: a}, {Stamp: 2, Value: b}, {Stamp: 3, Value: a}, {Stamp: 4}}
	c := chained(t, links...)
	a.Key = "c"
	holds(t, "pointers", c, links)
	c.Prune(2)
	holds(t, "pointers behind Prune", c, links[1:])
	x, _ := c.At(3)
	x.Value.Key = "d"
	same(t, "what was done to what At told", a.Key, "d")
}

// Words: texts, structs, arrays, interfaces, channels and functions are told as they are.
func TestOtherKinds(t *testing.T) {
	told(t, "", "a", "a\x00b", "\xff\xfe", string(make([]byte, 5000)))
	told(t, api.Handle{Life: 1, Number: 2}, api.Handle{}, api.Handle{Number: -1})
	told(t, [3]int{1, 2, 3}, [3]int{})
	told[any](t, 1, "a", nil, 1.5, api.Handle{Life: 3})
	told[error](t, api.ErrFull, nil, api.OK)
	told(t, struct{}{}, struct{}{})
	told(t, math.MaxInt64, math.MinInt64, 0)
	told(t, 1.5, 0, math.Inf(-1))
	told(t, true, false)
	told(t, make(chan int), nil, make(chan int))
	c := chained(t, chain.Link[func() int]{Stamp: 2, Value: func() int { return 3 }}, chain.Link[func() int]{Stamp: 5})
	x, is := c.At(4)
	same(t, "a function", is && x.Value() == 3, true)
	x, is = c.Last()
	same(t, "no function", is && x.Value == nil, true)
}

// told adds links with these values, alive and dead, and holds what the chain tells against them, also while it is pruned.
func told[V comparable](t *testing.T, values ...V) {
	t.Helper()
	var links []chain.Link[V]
	for i := range 4 * len(values) {
		links = append(links, chain.Link[V]{Stamp: 3*i + 1, Value: values[i%len(values)], Dead: i%2 == 1})
	}
	c := &chain.Chain[V]{}
	for i, x := range links {
		same(t, "Add", c.Add(x), api.OK)
		holds(t, "values of other kinds", c, links[:i+1])
	}
	for i, x := range links {
		same(t, "Prune", c.Prune(x.Stamp), min(i, 1))
		holds(t, "values of other kinds behind Prune", c, links[i:])
	}
}

// Values that are not like themselves, and such as no map can have as keys, are told too.
func TestNotLikeThemselves(t *testing.T) {
	c := chained(t, chain.Link[float64]{Stamp: 1, Value: math.NaN()}, chain.Link[float64]{Stamp: 2, Value: math.NaN()})
	x, is := c.At(1)
	same(t, "At", is && math.IsNaN(x.Value) && x.Stamp == 1, true)
	same(t, "Prune", c.Prune(2), 1)
	x, is = c.Last()
	same(t, "Last", is && math.IsNaN(x.Value), true)
	m := chained(t, chain.Link[map[string]int]{Stamp: 1, Value: map[string]int{"a": 1}})
	y, _ := m.Last()
	y.Value["a"] = 2
	y, _ = m.At(9)
	same(t, "a map", y.Value["a"], 2)
}

// Memory: what is told is not the chain's own: a link that is written over changes nothing of it.
func TestToldLinksAreNew(t *testing.T) {
	links := stamped(1, 4, 6)
	c := chained(t, links...)
	x := links[0]
	same(t, "Add refused", c.Add(x), api.ErrStamp)
	x.Stamp = 9
	y, _ := c.At(4)
	y.Stamp, y.Value, y.Dead = -1, -1, true
	z, _ := c.Last()
	z.Stamp, z.Value = 100, -2
	for w := range c.All() {
		w.Stamp, w.Value, w.Dead = 7, 7, true
	}
	holds(t, "behind writing over", c, stamped(1, 4, 6))
	same(t, "Add above the last one", c.Add(at(7, 1)), api.OK)
}

// W0: every call ends at numbers of every greatness, and none panics; beside an error nothing has changed.
func TestEveryCallEnds(t *testing.T) {
	numbers := []int{math.MinInt, math.MinInt + 1, -api.MaxStamp - 1, -1 << 32, -2, -1, 0, 1, 2, 1 << 32, api.MaxStamp, api.MaxStamp + 1, math.MaxInt - 1, math.MaxInt}
	for _, a := range numbers {
		for _, b := range numbers {
			for _, h := range numbers {
				c, p := &chain.Chain[int]{}, &paper[int]{}
				for i, s := range []int{a, b, h} {
					same(t, fmt.Sprint("Add of ", s, " among ", a, b, h), c.Add(at(s, i)), p.add(at(s, i)))
				}
				same(t, "Prune", c.Prune(h), p.prune(h))
				holds(t, fmt.Sprint("numbers ", a, b, h), c, p.links)
			}
		}
	}
}

// text is a link as the chapter writes it.
func text(x chain.Link[string], is bool) string {
	if !is {
		return "false"
	}
	if x.Dead {
		return fmt.Sprint(x.Stamp, ":x")
	}
	return fmt.Sprint(x.Stamp, ":", x.Value)
}

// texts is a walk's links, left behind the first so many, as the chapter writes them.
func texts(c *chain.Chain[string], most int) string {
	var all []string
	for x := range c.All() {
		all = append(all, text(x, true))
		if len(all) == most {
			break
		}
	}
	return strings.Join(all, " ")
}

// The chapter's examples, one behind the other.
func TestExamples(t *testing.T) {
	c := &chain.Chain[string]{}
	same(t, "At(5)", text(c.At(5)), "false")
	same(t, "Last", text(c.Last()), "false")
	same(t, "Len", c.Len(), 0)
	same(t, "Prune(9)", c.Prune(9), 0)
	same(t, "Add(3:a)", c.Add(put(3, "a")), api.OK)
	same(t, "Add(3:b)", c.Add(put(3, "b")), api.ErrStamp)
	same(t, "Add(2:c)", c.Add(put(2, "c")), api.ErrStamp)
	same(t, "Add(-1:d)", c.Add(put(-1, "d")), api.ErrStamp)
	same(t, "Add(5:x)", c.Add(gone(5)), api.OK)
	same(t, "Add(9:b)", c.Add(put(9, "b")), api.OK)
	same(t, "Len", c.Len(), 3)
	var at []string
	for _, s := range []int{2, 3, 4, 5, 8, 9, 100, -7} {
		at = append(at, text(c.At(s)))
	}
	same(t, "At", strings.Join(at, "; "), "false; 3:a; 3:a; 5:x; 5:x; 9:b; 9:b; false")
	same(t, "All", texts(c, -1), "9:b 5:x 3:a")
	same(t, "All, left behind the first", texts(c, 1), "9:b")
	same(t, "Prune(4)", c.Prune(4), 0)
	same(t, "Prune(8)", c.Prune(8), 1)
	same(t, "Prune(8) again", c.Prune(8), 0)
	same(t, "All", texts(c, -1), "9:b 5:x")
	same(t, "At(4)", text(c.At(4)), "false")
	same(t, "At(5)", text(c.At(5)), "5:x")
	same(t, "Prune(100)", c.Prune(100), 1)
	same(t, "Last", text(c.Last()), "9:b")
	var none *chain.Chain[string]
	same(t, "of no chain: Add(1:a)", none.Add(put(1, "a")), api.ErrNil)
	same(t, "of no chain: At(1)", text(none.At(1)), "false")
	same(t, "of no chain: Len", none.Len(), 0)
}
