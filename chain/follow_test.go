package chain_test

import (
	"fmt"
	"math/rand"
	"runtime"
	"testing"
	"weak"

	"cloister/api"
	"cloister/chain"
)

// P13.1 to P13.4: over rows of calls by chance, now leaning to Adds and now to Prunes, a chain is what the chapter's words say.
func TestRowsOfCalls(t *testing.T) {
	r := rand.New(rand.NewSource(13))
	for range 60 {
		c, p := &chain.Chain[int]{}, &paper[int]{}
		for i := range 400 {
			step(t, r, 3+i/100%6, i, c, p)
			if i%10 == 0 {
				holds(t, "in the midst of a row of calls", c, p.links)
			}
		}
		if t.Failed() {
			return
		}
	}
}

// P13.6, P13.7: over rows of calls by chance a Prune is not seen from its horizon on, and a walk tells what At does.
func TestPrunesByChance(t *testing.T) {
	r := rand.New(rand.NewSource(136))
	for range 300 {
		c, p := &chain.Chain[int]{}, &paper[int]{}
		for i := range 40 {
			step(t, r, 7, i, c, p)
		}
		before, h := append([]chain.Link[int](nil), p.links...), r.Intn(60)
		last, there := c.Last()
		c.Prune(h)
		for s := h; s < h+60; s++ {
			want, is := counts(before, s)
			sameAt(t, c, s, want, is)
		}
		got, is := c.Last()
		sameLink(t, "Last", got, is, last, there)
		same(t, "a second Prune", c.Prune(h), 0)
		told := walked(t, c)
		for s := -2; s < 100; s++ {
			want, is := counts(told, s)
			sameAt(t, c, s, want, is)
		}
	}
}

// The words: chains know nothing of each other, also in turns.
func TestApart(t *testing.T) {
	r := rand.New(rand.NewSource(130))
	chains, papers := make([]chain.Chain[int], 5), make([]paper[int], 5)
	for i := range 3000 {
		at := r.Intn(len(chains))
		step(t, r, 6, i, &chains[at], &papers[at])
		if i%50 == 0 {
			for at := range chains {
				holds(t, fmt.Sprint("the chain ", at), &chains[at], papers[at].links)
			}
		}
	}
}

// P13.1: links that go from one chain to another, in the midst of a walk too.
func TestHandedOver(t *testing.T) {
	from, to := row(t, 0, 5), &chain.Chain[int]{}
	var codes []api.Errno
	for x := range from.All() {
		codes = append(codes, to.Add(x))
		from.Prune(x.Stamp)
	}
	same(t, "codes", fmt.Sprint(codes), fmt.Sprint([]api.Errno{0, 130, 130, 130, 130}))
	holds(t, "the other one", to, []chain.Link[int]{at(4, 104)})
	holds(t, "the one", from, []chain.Link[int]{at(4, 104)})
}

// W0: a copy of a chain, and the chain it was copied from, go on without a panic, whatever becomes of the other.
func TestCopies(t *testing.T) {
	for n := range 9 {
		for h := range 12 {
			c := row(t, 0, n)
			other := *c
			for i := range 20 {
				c.Add(at(n+i, i))
				other.Prune(h)
				other.Add(at(n+2*i, i))
				other.At(i)
				c.Prune(h / 2)
				walked(t, &other)
				walked(t, c)
			}
		}
	}
}

// A chain may hold chains, itself among them.
func TestChainsInChains(t *testing.T) {
	type knot struct{ c *chain.Chain[any] }
	c := &chain.Chain[any]{}
	same(t, "Add", c.Add(chain.Link[any]{Stamp: 1, Value: knot{c}}), api.OK)
	same(t, "Add", c.Add(chain.Link[any]{Stamp: 2, Value: c}), api.OK)
	x, _ := c.At(1)
	same(t, "itself", x.Value, any(knot{c}))
	same(t, "Len", x.Value.(knot).c.Len(), 2)
}

// big is a value in memory of its own (small ones share theirs with others, and would stay with them).
type big [100]int

// watched is a chain with links at the stamps 0 and on, and how the value of each is looked after without holding on to it.
func watched(t *testing.T, n int) (*chain.Chain[*big], []weak.Pointer[big]) {
	c := &chain.Chain[*big]{}
	var marks []weak.Pointer[big]
	for i := range n {
		x := &big{i}
		marks = append(marks, weak.Make(x))
		same(t, "Add", c.Add(chain.Link[*big]{Stamp: i, Value: x}), api.OK)
	}
	return c, marks
}

// kept is how many of the marked values are held on to.
func kept(marks []weak.Pointer[big]) (n int) {
	runtime.GC()
	runtime.GC()
	for _, m := range marks {
		if m.Value() != nil {
			n++
		}
	}
	return n
}

// P13.3: of what was taken away nothing is kept, also behind walks that have ended or were left.
func TestNothingKeptBehindPrune(t *testing.T) {
	for _, n := range []int{1, 2, 3, 4, 7, 20} {
		c, marks := watched(t, n)
		all := c.All()
		for range all {
			break
		}
		walked(t, c)
		same(t, "held", kept(marks), n)
		for i := range n {
			c.Prune(i)
			same(t, "held behind Prunes", kept(marks), n-i)
		}
		runtime.KeepAlive(c)
		runtime.KeepAlive(all)
	}
}

// P13.1: of an Add that was refused nothing is kept.
func TestNothingKeptBehindRefusal(t *testing.T) {
	c, marks := watched(t, 3)
	func() {
		for _, s := range []int{-1, 0, 2} {
			x := &big{9}
			marks = append(marks, weak.Make(x))
			same(t, "Add", c.Add(chain.Link[*big]{Stamp: s, Value: x}), api.ErrStamp)
		}
	}()
	same(t, "held", kept(marks), 3)
	runtime.KeepAlive(c)
}

// P13.1 to P13.3: a chain of many links.
func TestLong(t *testing.T) {
	const n = 60000
	c := &chain.Chain[int]{}
	for i := range n {
		if c.Add(at(2*i, i)) != api.OK {
			t.Fatal("Add of ", i)
		}
	}
	for s := range 2 * n {
		if x, is := c.At(s); !is || x.Stamp != s-s%2 {
			t.Fatalf("At(%d): got %v %v", s, x, is)
		}
	}
	x, is := c.Last()
	sameLink(t, "Last", x, is, at(2*n-2, n-1), true)
	same(t, "Prune", c.Prune(n), n/2)
	same(t, "Len", c.Len(), n-n/2)
}
