package chain_test

import (
	"fmt"
	"math"
	"testing"

	"cloister/api"
	"cloister/chain"
)

// P13.3: at every horizon, of chains of all shapes: what goes, how many, and what is left.
func TestPrune(t *testing.T) {
	for _, stamps := range allSets(7) {
		for _, h := range asked(stamped(stamps...)) {
			c, p := chained(t, stamped(stamps...)...), &paper[int]{stamped(stamps...)}
			same(t, fmt.Sprint("Prune(", h, ") of ", stamps), c.Prune(h), p.prune(h))
			holds(t, fmt.Sprint("behind Prune(", h, ") of ", stamps), c, p.links)
		}
	}
}

// P13.3: written out by hand: below the first stamp, at one, between two, above the last one.
func TestPruneByHand(t *testing.T) {
	for _, r := range []struct{ horizon, gone int }{
		{math.MinInt, 0}, {-1, 0}, {0, 0}, {2, 0}, {3, 0}, {4, 0}, {5, 1}, {6, 1}, {8, 1}, {9, 2}, {10, 2}, {19, 2}, {20, 3}, {21, 3}, {api.MaxStamp, 3}, {math.MaxInt, 3},
	} {
		links := stamped(3, 5, 9, 20)
		c := chained(t, links...)
		same(t, fmt.Sprint("Prune(", r.horizon, ")"), c.Prune(r.horizon), r.gone)
		holds(t, fmt.Sprint("behind Prune(", r.horizon, ")"), c, links[r.gone:])
	}
}

// P13.3: if no link counts at the horizon none goes, and the last one never does, dead or not.
func TestPruneTakesNotAll(t *testing.T) {
	for _, dead := range []bool{false, true} {
		only := chain.Link[int]{Stamp: 4, Value: 1, Dead: dead}
		c := chained(t, only)
		for _, h := range []int{math.MinInt, -1, 0, 3, 4, 5, api.MaxStamp, math.MaxInt} {
			same(t, "Prune of one link", c.Prune(h), 0)
			holds(t, "one link", c, []chain.Link[int]{only})
		}
	}
	c := chained(t, gone(1), gone(2), gone(3))
	same(t, "Prune of dead ones", c.Prune(math.MaxInt), 2)
	holds(t, "dead ones", c, []chain.Link[string]{gone(3)})
}

// P13.3: a dead link that counts at the horizon stays, so that the one ahead of it is not seen again.
func TestPruneAtDead(t *testing.T) {
	c := chained(t, put(1, "a"), gone(5), put(9, "b"))
	same(t, "Prune", c.Prune(7), 1)
	holds(t, "behind it", c, []chain.Link[string]{gone(5), put(9, "b")})
	sameAt(t, c, 4, chain.Link[string]{}, false)
}

// P13.3: the stamp 0 and the greatest one are stamps as others are.
func TestPruneAtTheEnds(t *testing.T) {
	links := stamped(0, 1, math.MaxInt-1, math.MaxInt)
	for gone, h := range []int{0, 1, math.MaxInt - 1, math.MaxInt} {
		c := chained(t, links...)
		same(t, fmt.Sprint("Prune(", h, ")"), c.Prune(h), gone)
		holds(t, fmt.Sprint("behind Prune(", h, ")"), c, links[gone:])
	}
}

// P13.3, P13.6: a second Prune, at the same horizon or a lower one, takes nothing away.
func TestPruneTwice(t *testing.T) {
	for _, stamps := range allSets(6) {
		links := stamped(stamps...)
		for h := -2; h < 9; h++ {
			c, p := chained(t, links...), &paper[int]{stamped(stamps...)}
			c.Prune(h)
			p.prune(h)
			for lower := h; lower >= -3; lower-- {
				same(t, "a second Prune", c.Prune(lower), 0)
			}
			same(t, "at the least int", c.Prune(math.MinInt), 0)
			holds(t, "behind a second Prune", c, p.links)
		}
	}
}

// P13.3: Prunes at growing horizons take away together what the last one alone takes.
func TestPruneOnAndOn(t *testing.T) {
	for _, stamps := range allSets(7) {
		links := stamped(stamps...)
		c, total := chained(t, links...), 0
		for h := -1; h < 9; h++ {
			total += c.Prune(h)
			once := chained(t, links...)
			same(t, "taken together", total, once.Prune(h))
			sameList(t, "what is left", walked(t, c), walked(t, once))
		}
	}
}

// P13.1, P13.2, P13.3: behind a Prune Add goes on above the last stamp, and At tells both old and new links.
func TestAddBehindPrune(t *testing.T) {
	for _, stamps := range allSets(6)[1:] {
		for h := -1; h < 8; h++ {
			links := stamped(stamps...)
			last := stamps[len(stamps)-1]
			c := chained(t, links...)
			n := c.Prune(h)
			for s := -1; s <= last; s++ {
				same(t, "Add that is not above the last one", c.Add(at(s, 1)), api.ErrStamp)
			}
			left := append([]chain.Link[int](nil), links[n:]...)
			for i := range 9 {
				x := at(last+1+i, i)
				same(t, "Add behind Prune", c.Add(x), api.OK)
				left = append(left, x)
			}
			holds(t, "behind Prune and Adds", c, left)
			same(t, "Prune again", c.Prune(last+4), len(left)-6)
			holds(t, "behind a further Prune", c, left[len(left)-6:])
		}
	}
}

// P13.6: behind Prune(h) At(s) is for each s at or above h what it was, and so is Last.
func TestPruneIsNotSeenFromAbove(t *testing.T) {
	for _, stamps := range allSets(7) {
		links := stamped(stamps...)
		for h := -2; h < 10; h++ {
			before, c := chained(t, links...), chained(t, links...)
			c.Prune(h)
			for _, s := range append(asked(links), h) {
				if s >= h {
					want, is := before.At(s)
					sameAt(t, c, s, want, is)
				}
			}
			want, is := before.Last()
			got, there := c.Last()
			sameLink(t, "Last", got, there, want, is)
		}
	}
}

// P13.3: chains that are long, pruned by one and by many.
func TestPruneLong(t *testing.T) {
	var links []chain.Link[int]
	for i := range 1000 {
		links = append(links, chain.Link[int]{Stamp: 7 * i, Value: i, Dead: i%5 == 0})
	}
	for _, n := range []int{0, 1, 2, 499, 500, 511, 512, 513, 998, 999} {
		for _, more := range []int{0, 3, 6} {
			c := chained(t, links...)
			same(t, "Prune", c.Prune(7*n+more), n)
			sameList(t, "what is left", walked(t, c), turned(links[n:]))
			same(t, "Len", c.Len(), 1000-n)
		}
	}
}
