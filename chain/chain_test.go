package chain_test

import (
	"fmt"
	"math"
	"testing"

	"cloister/api"
	"cloister/chain"
)

// P13.1: a link whose stamp is above the last one's is the last one, dead or not, whatever its value.
func TestAdd(t *testing.T) {
	for _, first := range []int{0, 1, 2, 7, 1 << 32, api.MaxStamp} {
		for _, more := range []int{1, 2, 3, 1000, 1 << 40} {
			for kind := range 8 {
				a := chain.Link[int]{Stamp: first, Value: kind & 1, Dead: kind&2 != 0}
				b := chain.Link[int]{Stamp: first + more, Value: 5, Dead: kind&4 != 0}
				c := chained(t, a)
				holds(t, "one link", c, []chain.Link[int]{a})
				same(t, "Add", c.Add(b), api.OK)
				holds(t, "two links", c, []chain.Link[int]{a, b})
			}
		}
	}
}

// P13.1: with and without links a stamp below 0 is refused, and nothing changes.
func TestAddBelowNought(t *testing.T) {
	for _, links := range [][]chain.Link[int]{nil, stamped(0), stamped(3, 5, 9), stamped(math.MaxInt)} {
		for _, s := range []int{-1, -2, -9, -1 << 32, -api.MaxStamp, math.MinInt, math.MinInt + 1} {
			for _, dead := range []bool{false, true} {
				c := chained(t, links...)
				same(t, "Add below 0", c.Add(chain.Link[int]{Stamp: s, Value: 9, Dead: dead}), api.ErrStamp)
				holds(t, "behind a refusal", c, links)
			}
		}
	}
}

// P13.1: a stamp that is not above the last one's is refused, and nothing changes; one above it is taken behind that.
func TestAddNotAbove(t *testing.T) {
	for _, stamps := range allSets(6)[1:] {
		links := stamped(stamps...)
		last := stamps[len(stamps)-1]
		c := chained(t, links...)
		for s := -2; s <= last; s++ {
			for _, dead := range []bool{false, true} {
				same(t, fmt.Sprint("Add of ", s, " behind ", stamps), c.Add(chain.Link[int]{Stamp: s, Value: 9, Dead: dead}), api.ErrStamp)
			}
		}
		holds(t, "behind refusals", c, links)
		next := at(last+1, 8)
		same(t, "Add of the next one", c.Add(next), api.OK)
		holds(t, "behind the next one", c, append(links, next))
	}
}

// P13.1: the link that is already there is refused too, and a dead one may be followed by a dead one.
func TestAddAgain(t *testing.T) {
	c := chained(t, gone(2))
	same(t, "the same one", c.Add(gone(2)), api.ErrStamp)
	same(t, "the same stamp", c.Add(put(2, "a")), api.ErrStamp)
	same(t, "a dead one behind a dead one", c.Add(gone(3)), api.OK)
	same(t, "a dead one with a value", c.Add(chain.Link[string]{Stamp: 4, Value: "a", Dead: true}), api.OK)
	same(t, "the same value again", c.Add(put(5, "a")), api.OK)
	holds(t, "dead ones", c, []chain.Link[string]{gone(2), gone(3), {Stamp: 4, Value: "a", Dead: true}, put(5, "a")})
}

// P13.1, Limits: stamps are ints from 0 on, up to the greatest; behind that none is taken.
func TestAddUpToTheGreatest(t *testing.T) {
	links := stamped(0, 1, api.MaxStamp, api.MaxStamp+1, math.MaxInt-1, math.MaxInt)
	c := chained(t, links...)
	for _, s := range []int{math.MaxInt, math.MaxInt - 1, 0, -1, math.MinInt} {
		same(t, "behind the greatest", c.Add(at(s, 1)), api.ErrStamp)
	}
	holds(t, "up to the greatest", c, links)
}

// P13.1: behind a stamp of 0 an equal one is refused, though no link was 0 ahead of it.
func TestAddNought(t *testing.T) {
	c := &chain.Chain[int]{}
	same(t, "0 to no links", c.Add(at(0, 0)), api.OK)
	same(t, "0 again", c.Add(at(0, 0)), api.ErrStamp)
	holds(t, "the link at 0", c, []chain.Link[int]{at(0, 0)})
}

// P13.2: the link that counts at every stamp, of chains of all shapes.
func TestAt(t *testing.T) {
	for _, stamps := range allSets(8) {
		links := stamped(stamps...)
		c := chained(t, links...)
		for s := -3; s < 12; s++ {
			x, is := counts(links, s)
			sameAt(t, c, s, x, is)
		}
		holds(t, fmt.Sprint(stamps), c, links)
	}
}

// P13.2: stamps far apart, and the ends of the ints.
func TestAtFarApart(t *testing.T) {
	c := chained(t, put(0, "a"), gone(1<<31), put(1<<32, "b"), put(math.MaxInt, "c"))
	for _, s := range []int{math.MinInt, math.MinInt + 1, -1 << 32, -1} {
		sameAt(t, c, s, chain.Link[string]{}, false)
	}
	for _, s := range []int{0, 1, 1<<31 - 1} {
		sameAt(t, c, s, put(0, "a"), true)
	}
	for _, s := range []int{1 << 31, 1<<32 - 1} {
		sameAt(t, c, s, gone(1<<31), true)
	}
	for _, s := range []int{1 << 32, api.MaxStamp, math.MaxInt - 1} {
		sameAt(t, c, s, put(1<<32, "b"), true)
	}
	sameAt(t, c, math.MaxInt, put(math.MaxInt, "c"), true)
}

// P13.2: a dead link counts as others do, and is told with its value.
func TestAtDead(t *testing.T) {
	dead := chain.Link[string]{Stamp: 4, Value: "was", Dead: true}
	c := chained(t, dead)
	sameAt(t, c, 3, chain.Link[string]{}, false)
	sameAt(t, c, 4, dead, true)
	sameAt(t, c, 5, dead, true)
	x, is := c.Last()
	sameLink(t, "Last", x, is, dead, true)
	same(t, "Add", c.Add(put(6, "b")), api.OK)
	sameAt(t, c, 5, dead, true)
	sameAt(t, c, 6, put(6, "b"), true)
}

// P13.2: Last goes with each Add, and is no more than zero beside a false.
func TestLast(t *testing.T) {
	c := &chain.Chain[string]{}
	x, is := c.Last()
	sameLink(t, "of no links", x, is, chain.Link[string]{}, false)
	for _, y := range []chain.Link[string]{put(0, ""), gone(1), put(9, "b"), {Stamp: 10, Value: "c", Dead: true}} {
		same(t, "Add", c.Add(y), api.OK)
		same(t, "Add refused", c.Add(put(y.Stamp, "no")), api.ErrStamp)
		x, is := c.Last()
		sameLink(t, "Last", x, is, y, true)
	}
}

// P13.2: a link that is like the zero one is there all the same.
func TestZeroLink(t *testing.T) {
	c := chained(t, chain.Link[string]{})
	sameAt(t, c, -1, chain.Link[string]{}, false)
	sameAt(t, c, 0, chain.Link[string]{}, true)
	x, is := c.Last()
	sameLink(t, "Last", x, is, chain.Link[string]{}, true)
	same(t, "Len", c.Len(), 1)
	sameList(t, "All", walked(t, c), make([]chain.Link[string], 1))
}

// P13.4: Len goes up with each Add that is OK, and with no other.
func TestLen(t *testing.T) {
	c := &chain.Chain[int]{}
	for i := range 300 {
		same(t, "Len", c.Len(), i)
		same(t, "Add", c.Add(at(3*i, i)), api.OK)
		same(t, "Len behind it", c.Len(), i+1)
		same(t, "Add refused", c.Add(at(3*i, i)), api.ErrStamp)
		same(t, "Len behind a refusal", c.Len(), i+1)
	}
}

// P13.1, P13.5, the order of errors: each call of a chain that is not there, with good stamps and wrong ones.
func TestNone(t *testing.T) {
	noneOf(t, "a")
	noneOf(t, 7)
	noneOf(t, struct{}{})
	noneOf(t, &struct{ x int }{3})
	noneOf[any](t, 1.5)
}

func noneOf[V comparable](t *testing.T, v V) {
	t.Helper()
	var none *chain.Chain[V]
	for range 2 {
		for _, s := range []int{math.MinInt, -1, 0, 1, 9, api.MaxStamp, math.MaxInt} {
			same(t, "Add", none.Add(chain.Link[V]{Stamp: s, Value: v}), api.ErrNil)
			same(t, "Add of a dead one", none.Add(chain.Link[V]{Stamp: s, Dead: true}), api.ErrNil)
			sameAt(t, none, s, chain.Link[V]{}, false)
			same(t, "Prune", none.Prune(s), 0)
		}
		holds(t, "none", none, nil)
	}
	all := none.All()
	if all == nil {
		t.Fatal("All of none is no walk")
	}
	for range 2 {
		for x := range all {
			t.Error("a walk through nothing: ", x)
		}
	}
}

// The words: a zero value is a chain without links; it may be used as it is.
func TestZeroValue(t *testing.T) {
	var c chain.Chain[int]
	holds(t, "the zero value", &c, nil)
	for _, h := range []int{math.MinInt, -1, 0, 9, math.MaxInt} {
		same(t, "Prune", c.Prune(h), 0)
	}
	holds(t, "the zero value, pruned", &c, nil)
	same(t, "Add", c.Add(at(4, 5)), api.OK)
	holds(t, "with a link", &c, []chain.Link[int]{at(4, 5)})
	var held struct{ c chain.Chain[string] }
	same(t, "Add to one within a struct", held.c.Add(put(1, "a")), api.OK)
	holds(t, "within a struct", &held.c, []chain.Link[string]{put(1, "a")})
}
