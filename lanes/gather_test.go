package lanes_test

import (
	"fmt"
	"math"
	"testing"
	"time"

	"cloister/api"
	"cloister/lanes"
)

// gathered calls Gather of so many items, of each of which f answers the code in its place, and holds all that shows against the chapter's words.
func gathered(t *testing.T, codes []api.Errno, workers int) {
	t.Helper()
	n := len(codes)
	what := fmt.Sprintf("Gather of %d items by %d", n, workers)
	items, want := make([]string, n), make([]int, n)
	for i := range items {
		items[i] = fmt.Sprint("item ", i)
		want[i] = 1000*i + len(items[i])
	}
	g := gaugeOf(n)
	got, at, code := lanes.Gather(items, workers, func(i int, a string) (int, api.Errno) {
		g.enter(i)
		defer g.leave()
		if a != items[i] {
			t.Errorf("%s: with the number %d the item %q", what, i, a)
		}
		linger(i)
		return 1000*i + len(a), codes[i]
	})
	place, refused := firstOf(codes)
	same(t, what+": the error", code, refused)
	same(t, what+": the place", at, place)
	g.ended(t, what, workers)
	if place < 0 {
		sameList(t, what, got, want)
		g.onceEach(t, what, 0, n)
		return
	}
	sameList(t, what+" beside an error", got, nil)
	g.onceEach(t, what, 0, place+1)
	g.atMostOnceEach(t, what, place+1)
}

// P6.2: f answers OK of each item.
func TestGather(t *testing.T) {
	for _, n := range numbersOfItems() {
		for _, workers := range []int{1, 2, 3, 8, 63, 64} {
			gathered(t, make([]api.Errno, n), workers)
		}
	}
}

// P6.2: an error at the first item, a middle one, the last one, at several, at all.
func TestGatherWithErrors(t *testing.T) {
	for _, n := range []int{1, 2, 3, 5, 64, 65, 300} {
		for _, workers := range []int{1, 2, 3, 8, 63, 64} {
			gathered(t, refusals(n, map[int]api.Errno{0: api.ErrFull}), workers)
			gathered(t, refusals(n, map[int]api.Errno{n / 2: api.ErrRange}), workers)
			gathered(t, refusals(n, map[int]api.Errno{n - 1: api.ErrKey}), workers)
			gathered(t, refusals(n, map[int]api.Errno{n / 2: api.ErrDown, n - 1: api.ErrSum}), workers)
			gathered(t, refusals(n, map[int]api.Errno{n / 3: api.ErrSum, n / 2: api.ErrDown, n - 1: api.ErrSum}), workers)
			all := make([]api.Errno, n)
			for i := range all {
				all[i] = api.Errno(i + 1)
			}
			gathered(t, all, workers)
		}
	}
}

// P6.2: whatever f answers beside OK is an error: one of the arguments' too, numbers below 0, numbers that are nobody's.
func TestGatherOfAnyError(t *testing.T) {
	for _, code := range []api.Errno{api.ErrNil, api.ErrArg, api.ErrLarge, api.ErrPast, -1, -50, 99999, math.MaxInt, math.MinInt} {
		for _, workers := range []int{1, 64} {
			gathered(t, refusals(4, map[int]api.Errno{2: code, 3: api.ErrFull}), workers)
		}
	}
}

// P6.2: wrong numbers of workers, and no f: nothing, the place 0, and f is not called.
func TestGatherRefused(t *testing.T) {
	f := func(i, a int) (int, api.Errno) {
		t.Errorf("f is called of %d", a)
		return a, api.OK
	}
	for _, items := range [][]int{nil, {}, {1}, {1, 2, 3}} {
		for _, workers := range wrongWorkers() {
			got, at, code := lanes.Gather(items, workers, f)
			what := fmt.Sprintf("Gather of %v by %d", items, workers)
			same(t, what, code, api.ErrArg)
			same(t, what+": the place", at, 0)
			sameList(t, what, got, nil)
		}
		for _, workers := range append(wrongWorkers(), 1, 2, 64) {
			got, at, code := lanes.Gather[int, int](items, workers, nil)
			what := fmt.Sprintf("Gather of %v by %d without f", items, workers)
			same(t, what, code, api.ErrArg)
			same(t, what+": the place", at, 0)
			sameList(t, what, got, nil)
		}
	}
}

// P6.2: of no items f is not called, and there is no error.
func TestGatherOfNothing(t *testing.T) {
	for workers := 1; workers <= api.MaxWorkers; workers++ {
		for _, items := range [][]int{nil, {}} {
			got, at, code := lanes.Gather(items, workers, func(i, a int) (int, api.Errno) {
				t.Error("f is called of nothing")
				return 1, api.ErrFull
			})
			same(t, "Gather of nothing", code, api.OK)
			same(t, "Gather of nothing: the place", at, -1)
			sameList(t, "Gather of nothing", got, nil)
		}
	}
}

// P6.2: at most workers times at a time, where each call takes its time; with an error in the midst too.
func TestGatherAtATime(t *testing.T) {
	for _, workers := range []int{1, 2, 3, 5, 64} {
		for _, codes := range [][]api.Errno{
			make([]api.Errno, 4*workers+3),
			refusals(4*workers+3, map[int]api.Errno{2 * workers: api.ErrRange}),
		} {
			g := gaugeOf(len(codes))
			lanes.Gather(codes, workers, func(i int, code api.Errno) (int, api.Errno) {
				g.enter(i)
				defer g.leave()
				time.Sleep(2 * time.Millisecond)
				return i, code
			})
			g.ended(t, fmt.Sprintf("Gather by %d", workers), workers)
		}
	}
}

// P6.2: the least item counts, not the one that is refused first in time: those ahead of the last one wait here until that one has been refused.
func TestGatherLeastNotFirst(t *testing.T) {
	for _, workers := range []int{2, 3, 8, 64} {
		for slow := range min(workers-1, 5) {
			g := gaugeOf(workers)
			refused := make(chan struct{})
			got, at, code := lanes.Gather(upTo(workers), workers, func(i, a int) (int, api.Errno) {
				g.enter(i)
				defer g.leave()
				if i == workers-1 {
					defer close(refused)
					return i, api.ErrFull
				}
				wait(refused, 10*time.Second)
				time.Sleep(2 * time.Millisecond)
				if i == slow {
					return i, api.ErrRange
				}
				return i, api.OK
			})
			what := fmt.Sprintf("%d items, the item %d slowly refused", workers, slow)
			same(t, what, code, api.ErrRange)
			same(t, what+": the place", at, slow)
			sameList(t, what, got, nil)
			g.onceEach(t, what, 0, slow+1)
			g.atMostOnceEach(t, what, slow+1)
			g.ended(t, what, workers)
		}
	}
}

// P6.2: many calls are refused at one time: the least is told, and all end.
func TestGatherAllAtOnce(t *testing.T) {
	for _, workers := range []int{1, 2, 64} {
		for range 20 {
			g := gaugeOf(3 * workers)
			together := make(chan struct{})
			got, at, code := lanes.Gather(upTo(3*workers), workers, func(i, a int) (int, api.Errno) {
				g.enter(i)
				defer g.leave()
				if i == workers-1 {
					close(together)
				}
				wait(together, 10*time.Second)
				return i, api.Errno(1000 + i)
			})
			what := fmt.Sprintf("all of %d refused at one time", workers)
			same(t, what, code, 1000)
			same(t, what+": the place", at, 0)
			sameList(t, what, got, nil)
			g.onceEach(t, what, 0, 1)
			g.atMostOnceEach(t, what, 1)
			g.ended(t, what, workers)
		}
	}
}

// Ways: work is given out as long as nothing was refused, not much longer.
func TestGatherGivesUp(t *testing.T) {
	const n = 4000
	for _, workers := range []int{1, 2, 8} {
		g := gaugeOf(n)
		_, at, code := lanes.Gather(upTo(n), workers, func(i, a int) (int, api.Errno) {
			g.enter(i)
			defer g.leave()
			if i == 10 {
				return 0, api.ErrFull
			}
			time.Sleep(100 * time.Microsecond)
			return i, api.OK
		})
		what := fmt.Sprintf("an early error, by %d", workers)
		same(t, what, code, api.ErrFull)
		same(t, what+": the place", at, 10)
		if all := g.all(); all > n/2 {
			t.Errorf("%s: %d calls", what, all)
		}
	}
}
