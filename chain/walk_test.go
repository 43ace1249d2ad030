package chain_test

import (
	"fmt"
	"iter"
	"testing"

	"cloister/api"
	"cloister/chain"
)

// stampsOf is the stamps that a walk tells.
func stampsOf(all iter.Seq[chain.Link[int]]) (stamps []int) {
	for x := range all {
		stamps = append(stamps, x.Stamp)
		if len(stamps) > 70000 {
			panic("a walk without an end")
		}
	}
	return stamps
}

// row is a chain with the stamps 0 to one less than n, some taken away from the front, so that it has been moved.
func row(t *testing.T, pruned, n int) *chain.Chain[int] {
	t.Helper()
	c := &chain.Chain[int]{}
	for i := range n {
		same(t, "Add", c.Add(at(i, 100+i)), api.OK)
	}
	c.Prune(pruned)
	return c
}

// down is the numbers from one on down to another one.
func down(from, to int) (all []int) {
	for i := from; i >= to; i-- {
		all = append(all, i)
	}
	return all
}

// P13.4: all links, the newest first.
func TestAll(t *testing.T) {
	for _, stamps := range allSets(7) {
		links := stamped(stamps...)
		c := chained(t, links...)
		sameList(t, "All", walked(t, c), turned(links))
		sameList(t, "All again", walked(t, c), turned(links))
	}
}

// P13.4: a walk that is left early goes no further, and changes nothing; the next one begins anew.
func TestAllLeftEarly(t *testing.T) {
	for n := range 8 {
		for leave := range n {
			c := row(t, 0, n)
			all := c.All()
			for range 3 {
				steps := 0
				all(func(x chain.Link[int]) bool {
					same(t, "the link", x, at(n-1-steps, 100+n-1-steps))
					steps++
					return steps <= leave
				})
				same(t, "steps of a walk that was left", steps, leave+1)
				sameList(t, "a whole walk behind it", stampsOf(all), down(n-1, 0))
				same(t, "Len", c.Len(), n)
			}
		}
	}
}

// P13.4: what All answered is gone through again and again, each time through what the chain has when that begins, also where it was taken ahead of that.
func TestAllBegunAnew(t *testing.T) {
	c := &chain.Chain[int]{}
	all := c.All()
	sees := func(want ...int) {
		t.Helper()
		for range 2 {
			sameList(t, "the walk", stampsOf(all), want)
			sameList(t, "a new walk", stampsOf(c.All()), want)
		}
	}
	sees()
	c.Add(at(1, 0))
	sees(1)
	c.Add(at(2, 0))
	c.Add(at(4, 0))
	c.Add(at(4, 0))
	sees(4, 2, 1)
	c.Prune(3)
	sees(4, 2)
	c.Add(at(5, 0))
	sees(5, 4, 2)
	c.Prune(9)
	sees(5)
	c.Add(at(6, 0))
	sees(6, 5)
}

// P13.4: what is added or taken away in the midst of a walk plays no part in it, at whichever link, however full the chain's memory is; the chain itself goes on.
func TestAllWhileItGoesOn(t *testing.T) {
	next := 0
	changes := map[string]func(c *chain.Chain[int]){
		"added":            func(c *chain.Chain[int]) { next++; c.Add(at(1000+next, 7)) },
		"pruned by one":    func(c *chain.Chain[int]) { c.Prune(oldest(c) + 1) },
		"pruned to one":    func(c *chain.Chain[int]) { c.Prune(1 << 40) },
		"pruned and added": func(c *chain.Chain[int]) { c.Prune(oldest(c) + 1); next++; c.Add(at(1000+next, 7)) },
		"added and pruned": func(c *chain.Chain[int]) { next++; c.Add(at(1000+next, 7)); c.Prune(oldest(c) + 1) },
		"pruned to one, and many added": func(c *chain.Chain[int]) {
			c.Prune(1 << 40)
			for range 20 {
				next++
				c.Add(at(1000+next, 7))
			}
		},
		"refused": func(c *chain.Chain[int]) { c.Add(at(0, 7)); c.Prune(-1) },
	}
	for what, change := range changes {
		for n := range 10 {
			for begin := range n + 1 {
				for pruned := range 4 {
					c := row(t, pruned, n)
					sameWalk(t, what, c, begin, change, n, min(pruned, max(n-1, 0)))
				}
			}
		}
	}
}

// oldest is the first link's stamp.
func oldest(c *chain.Chain[int]) int {
	all := stampsOf(c.All())
	if len(all) == 0 {
		return 0
	}
	return all[len(all)-1]
}

// sameWalk goes through a chain of the stamps from least to n-1 which is changed at each link from one on, and holds the walk, and the chain behind it, against what is wanted.
func sameWalk(t *testing.T, what string, c *chain.Chain[int], begin int, change func(*chain.Chain[int]), n, least int) {
	t.Helper()
	p := &chain.Chain[int]{} // goes the same way, but in no walk
	for i := least; i < n; i++ {
		p.Add(at(i, 100+i))
	}
	var got []chain.Link[int]
	for x := range c.All() {
		got = append(got, x)
		if len(got) > begin {
			change(c)
		}
		if len(got) > 100 {
			t.Fatal("a walk without an end: ", what)
		}
	}
	var want []chain.Link[int]
	for _, s := range down(n-1, least) {
		want = append(want, at(s, 100+s))
	}
	sameList(t, what, got, want)
	for i := begin; i < len(want); i++ {
		change(p)
	}
	same(t, what+": Len", c.Len(), p.Len())
	values := func(x []chain.Link[int]) (v []int) {
		for _, y := range x {
			v = append(v, y.Value)
		}
		return v
	}
	sameList(t, what+": behind the walk", values(walked(t, c)), values(walked(t, p)))
}

// P13.4: walks within one another, between which the chain goes on: each goes through what was there when it began.
func TestAllWithin(t *testing.T) {
	c := row(t, 0, 3)
	all := c.All()
	var outer []int
	var inner []string
	for x := range all {
		outer = append(outer, x.Stamp)
		last, _ := c.Last()
		c.Add(at(last.Stamp+1, 0))
		c.Prune(oldest(c) + 1)
		var one []int
		for y := range all {
			one = append(one, y.Stamp)
			last, _ := c.Last()
			c.Add(at(last.Stamp+10, 0))
			c.Prune(oldest(c) + 10)
		}
		inner = append(inner, fmt.Sprint(one))
	}
	sameList(t, "the outer walk", outer, []int{2, 1, 0})
	same(t, "the inner walks", fmt.Sprint(inner), "[[3 2 1] [34 33 23] [65 64 54 44]]")
}

// P13.4: two walks in turns, one of which is left, are each on their own.
func TestWalksInTurns(t *testing.T) {
	c := row(t, 2, 6)
	all := c.All()
	var got []int
	for x := range all {
		for y := range all {
			got = append(got, x.Stamp, y.Stamp)
			if y.Stamp == 4 {
				break
			}
		}
	}
	sameList(t, "in turns", got, []int{5, 5, 5, 4, 4, 5, 4, 4, 3, 5, 3, 4, 2, 5, 2, 4})
}

// P13.4: a walk under way goes on as it began while the chain grows far beyond it, and one that has begun with nothing tells nothing.
func TestAllEnds(t *testing.T) {
	c := &chain.Chain[int]{}
	for range c.All() {
		t.Error("a walk through nothing")
	}
	for i := range 3 {
		c.Add(at(i, i))
	}
	steps := 0
	for x := range c.All() {
		same(t, "the stamp", x.Stamp, 2-steps)
		steps++
		for range 1000 {
			last, _ := c.Last()
			c.Add(at(last.Stamp+1, -1))
		}
	}
	same(t, "steps", steps, 3)
	same(t, "Len", c.Len(), 3003)
}

// P13.7: the stamps that All tells fall, and At is the first link of a walk at or below a stamp.
func TestAtByAWalk(t *testing.T) {
	for _, stamps := range allSets(8) {
		c := chained(t, stamped(stamps...)...)
		for pruned := -1; pruned < 9; pruned += 2 {
			c.Prune(pruned)
			told := stampsOf(c.All())
			for i := 1; i < len(told); i++ {
				same(t, "stamps fall", told[i-1] > told[i], true)
			}
			for s := -2; s < 11; s++ {
				var want chain.Link[int]
				is := false
				for x := range c.All() {
					if x.Stamp <= s {
						want, is = x, true
						break
					}
				}
				sameAt(t, c, s, want, is)
			}
		}
	}
}
