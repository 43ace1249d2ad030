package chain_test

import (
	"fmt"
	"math"
	"math/rand"
	"testing"

	"cloister/api"
	"cloister/chain"
)

// same holds an answer against what is wanted.
func same[A comparable](t *testing.T, what string, got, want A) {
	t.Helper()
	if got != want {
		t.Errorf("%.300s: got %.300s, want %.300s", what, fmt.Sprint(got), fmt.Sprint(want))
	}
}

// at is a link with a number; put is one with a text, gone a dead one without.
func at(stamp, value int) chain.Link[int]        { return chain.Link[int]{Stamp: stamp, Value: value} }
func put(stamp int, v string) chain.Link[string] { return chain.Link[string]{Stamp: stamp, Value: v} }
func gone(stamp int) chain.Link[string]          { return chain.Link[string]{Stamp: stamp, Dead: true} }

// chained is a chain of links all of which Add must take.
func chained[V any](t *testing.T, links ...chain.Link[V]) *chain.Chain[V] {
	t.Helper()
	c := &chain.Chain[V]{}
	for _, x := range links {
		if code := c.Add(x); code != api.OK {
			t.Fatalf("Add of %.300s: got %v", fmt.Sprint(x), code)
		}
	}
	return c
}

// stamped is links with these stamps, each with a value of its own, every third one dead.
func stamped(stamps ...int) (links []chain.Link[int]) {
	for i, s := range stamps {
		links = append(links, chain.Link[int]{Stamp: s, Value: 100 + i, Dead: i%3 == 2})
	}
	return links
}

// walked is what a walk tells; one beyond any chain of these tests is given up.
func walked[V any](t *testing.T, c *chain.Chain[V]) (links []chain.Link[V]) {
	t.Helper()
	for x := range c.All() {
		if len(links) > 70000 {
			t.Fatal("a walk without an end")
		}
		links = append(links, x)
	}
	return links
}

// turned is a list the other way round, in new memory.
func turned[A any](list []A) (back []A) {
	for i := range list {
		back = append(back, list[len(list)-1-i])
	}
	return back
}

// sameList holds a list against what is wanted; nil and empty ones are the same.
func sameList[A comparable](t *testing.T, what string, got, want []A) {
	t.Helper()
	like := len(got) == len(want)
	for i := 0; like && i < len(got); i++ {
		like = got[i] == want[i]
	}
	if !like {
		t.Errorf("%.300s: got %.300s, want %.300s", what, fmt.Sprint(got), fmt.Sprint(want))
	}
}

// sameLink holds what At or Last answers against what is wanted.
func sameLink[V comparable](t *testing.T, what string, got chain.Link[V], there bool, want chain.Link[V], is bool) {
	t.Helper()
	if got != want || there != is {
		t.Errorf("%.300s: got %.200s %v, want %.200s %v", what, fmt.Sprint(got), there, fmt.Sprint(want), is)
	}
}

// sameAt holds what At answers against what is wanted.
func sameAt[V comparable](t *testing.T, c *chain.Chain[V], stamp int, want chain.Link[V], is bool) {
	t.Helper()
	got, there := c.At(stamp)
	sameLink(t, fmt.Sprint("At(", stamp, ")"), got, there, want, is)
}

// counts is which of these links counts at a stamp, as the chapter's words have it: it goes through all of them.
func counts[V any](links []chain.Link[V], stamp int) (chain.Link[V], bool) {
	var best chain.Link[V]
	is := false
	for _, x := range links {
		if x.Stamp <= stamp && (!is || x.Stamp > best.Stamp) {
			best, is = x, true
		}
	}
	return best, is
}

// asked is stamps around those of some links, and the ends of the ints.
func asked[V any](links []chain.Link[V]) []int {
	all := []int{math.MinInt, math.MinInt + 1, -7, -1, 0, 1, 1 << 32, api.MaxStamp, math.MaxInt - 1, math.MaxInt}
	for _, x := range links {
		all = append(all, x.Stamp-1, x.Stamp)
		if x.Stamp < math.MaxInt {
			all = append(all, x.Stamp+1)
		}
	}
	return all
}

// holds holds all that a chain tells against the links that it must have, the oldest first; it asks twice, since asking must change nothing.
func holds[V comparable](t *testing.T, what string, c *chain.Chain[V], want []chain.Link[V]) {
	t.Helper()
	for range 2 {
		same(t, what+": Len", c.Len(), len(want))
		sameList(t, what+": All", walked(t, c), turned(want))
		last, is := c.Last()
		newest, there := counts(want, math.MaxInt)
		sameLink(t, what+": Last", last, is, newest, there)
		for _, s := range asked(want) {
			x, is := counts(want, s)
			sameAt(t, c, s, x, is)
		}
		if t.Failed() {
			t.Fatal("behind: ", what)
		}
	}
}

// paper is a chain as the chapter's words have it.
type paper[V any] struct{ links []chain.Link[V] }

func (p *paper[V]) add(x chain.Link[V]) api.Errno {
	if x.Stamp < 0 {
		return api.ErrStamp
	}
	for _, y := range p.links {
		if y.Stamp >= x.Stamp {
			return api.ErrStamp
		}
	}
	p.links = append(p.links, x)
	return api.OK
}

func (p *paper[V]) prune(horizon int) int {
	at, is := counts(p.links, horizon)
	var left []chain.Link[V]
	for _, x := range p.links {
		if !is || x.Stamp == at.Stamp || x.Stamp > horizon {
			left = append(left, x)
		}
	}
	n := len(p.links) - len(left)
	p.links = left
	return n
}

// step does one call by chance to a chain and to its paper, and holds the answers against each other. Of 8 calls lean are Adds.
func step(t *testing.T, r *rand.Rand, lean, value int, c *chain.Chain[int], p *paper[int]) {
	t.Helper()
	newest := 0
	if x, is := counts(p.links, math.MaxInt); is {
		newest = x.Stamp
	}
	if r.Intn(8) < lean {
		x := chain.Link[int]{Stamp: newest + r.Intn(8) - 2, Value: value, Dead: r.Intn(4) == 0}
		same(t, fmt.Sprint("Add ", x), c.Add(x), p.add(x))
		return
	}
	h := r.Intn(newest+10) - 4
	same(t, fmt.Sprint("Prune ", h), c.Prune(h), p.prune(h))
}

// allSets is all lists of rising numbers below a bound.
func allSets(bound int) (all [][]int) {
	for bits := range 1 << bound {
		var set []int
		for i := range bound {
			if bits>>i&1 == 1 {
				set = append(set, i)
			}
		}
		all = append(all, set)
	}
	return all
}
