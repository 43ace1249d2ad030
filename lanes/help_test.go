package lanes_test

import (
	"fmt"
	"runtime"
	"sync/atomic"
	"testing"
	"time"

	"cloister/api"
)

// same holds an answer against what is wanted.
func same[A comparable](t *testing.T, what string, got, want A) {
	t.Helper()
	if got != want {
		t.Errorf("%.300s: got %.300s, want %.300s", what, fmt.Sprint(got), fmt.Sprint(want))
	}
}

// sameList holds a list against the one that is wanted; none and an empty one are the same.
func sameList[A comparable](t *testing.T, what string, got, want []A) {
	t.Helper()
	if len(got) != len(want) {
		t.Errorf("%.300s: got %d things: %.300s, want %d: %.300s", what, len(got), fmt.Sprint(got), len(want), fmt.Sprint(want))
		return
	}
	for i := range want {
		if got[i] != want[i] {
			t.Errorf("%.300s: at %d: got %.300s, want %.300s", what, i, fmt.Sprint(got[i]), fmt.Sprint(want[i]))
			return
		}
	}
}

// upTo is the numbers from 0 on, so many.
func upTo(n int) []int {
	all := make([]int, n)
	for i := range all {
		all[i] = i
	}
	return all
}

// wrongWorkers are numbers of workers that are refused.
func wrongWorkers() []int {
	const greatest = int(^uint(0) >> 1)
	return []int{0, -1, -2, -64, 65, 66, 128, 1 << 16, 1<<32 + 1, 1<<32 + 64, greatest, greatest - 1, -greatest, -greatest - 1}
}

// numbersOfItems are few and many, and those beside the numbers of workers.
func numbersOfItems() []int {
	return []int{0, 1, 2, 3, 4, 7, 63, 64, 65, 130, 1000}
}

// gauge tells how a function is called: how often of each item, how many times at a time now and at most.
type gauge struct {
	calls     []atomic.Int64
	now, most atomic.Int64
}

func gaugeOf(items int) *gauge {
	return &gauge{calls: make([]atomic.Int64, items)}
}

// enter is called when the function begins with an item, leave when it ends. It tells how many calls go on, this one counted.
func (g *gauge) enter(item int) int {
	g.calls[item].Add(1)
	now := g.now.Add(1)
	for most := g.most.Load(); now > most && !g.most.CompareAndSwap(most, now); most = g.most.Load() {
	}
	return int(now)
}

func (g *gauge) leave() { g.now.Add(-1) }

// all is how many calls there were.
func (g *gauge) all() (n int) {
	for i := range g.calls {
		n += int(g.calls[i].Load())
	}
	return n
}

// ended tells that no call goes on, and that there were at most so many at a time.
func (g *gauge) ended(t *testing.T, what string, workers int) {
	t.Helper()
	same(t, what+": calls that go on behind the answer", g.now.Load(), 0)
	if most := int(g.most.Load()); most > workers {
		t.Errorf("%s: %d calls at a time, where %d are the most", what, most, workers)
	}
}

// onceEach tells that the items from one to ahead of another were each called of once.
func (g *gauge) onceEach(t *testing.T, what string, from, to int) {
	t.Helper()
	for i := from; i < to; i++ {
		if n := g.calls[i].Load(); n != 1 {
			t.Errorf("%s: %d calls of the item %d", what, n, i)
			return
		}
	}
}

// atMostOnceEach tells that of no item from one on there was more than a call.
func (g *gauge) atMostOnceEach(t *testing.T, what string, from int) {
	t.Helper()
	for i := from; i < len(g.calls); i++ {
		if n := g.calls[i].Load(); n > 1 {
			t.Errorf("%s: %d calls of the item %d", what, n, i)
			return
		}
	}
}

// linger lets others go on, now and then for longer.
func linger(i int) {
	for range i % 4 {
		runtime.Gosched()
	}
	if i%16 == 5 {
		time.Sleep(50 * time.Microsecond)
	}
}

// wait waits for a channel's end, but not for ever: a test shall fail, not hang.
func wait(end <-chan struct{}, most time.Duration) bool {
	select {
	case <-end:
		return true
	case <-time.After(most):
		return false
	}
}

// noneLeft tells that there come to be no more goroutines than there were. (The last steps of one that has ended may take a moment.)
func noneLeft(t *testing.T, what string, before int) {
	t.Helper()
	now := runtime.NumGoroutine()
	for begin := time.Now(); now > before && time.Since(begin) < 5*time.Second; now = runtime.NumGoroutine() {
		time.Sleep(time.Millisecond)
	}
	if now > before {
		t.Errorf("%s: %d goroutines, there were %d", what, now, before)
	}
}

// refusals is a list of what is answered of each item: OK, but of those that are named.
func refusals(items int, at map[int]api.Errno) []api.Errno {
	codes := make([]api.Errno, items)
	for i, code := range at {
		codes[i] = code
	}
	return codes
}

// firstOf is the least place of something else than OK, and what stands there; -1 and OK, if there is none.
func firstOf(codes []api.Errno) (int, api.Errno) {
	for i, code := range codes {
		if code != api.OK {
			return i, code
		}
	}
	return -1, api.OK
}
