package lanes_test

import (
	"fmt"
	"math"
	"strconv"
	"testing"
	"time"

	"cloister/api"
	"cloister/lanes"
)

// P6.1: of no items, of few and of many, with few and many workers: what f answers of each, in the items' order.
func TestMap(t *testing.T) {
	for _, n := range numbersOfItems() {
		items, want := upTo(n), make([]string, n)
		for i := range want {
			want[i] = strconv.Itoa(-i)
		}
		for _, workers := range []int{1, 2, 3, 8, 63, 64} {
			what := fmt.Sprintf("Map of %d items by %d", n, workers)
			g := gaugeOf(n)
			got, code := lanes.Map(items, workers, func(i int) string {
				g.enter(i)
				defer g.leave()
				linger(i)
				return strconv.Itoa(-i)
			})
			same(t, what, code, api.OK)
			sameList(t, what, got, want)
			g.onceEach(t, what, 0, n)
			g.ended(t, what, workers)
		}
	}
}

// P6.1: wrong numbers of workers, and no f: nothing, and f is not called.
func TestMapRefused(t *testing.T) {
	for _, workers := range wrongWorkers() {
		for _, items := range [][]int{nil, {}, {1}, {1, 2, 3}} {
			got, code := lanes.Map(items, workers, func(i int) int {
				t.Errorf("f is called of %d, with %d workers", i, workers)
				return i
			})
			what := fmt.Sprintf("Map of %v by %d", items, workers)
			same(t, what, code, api.ErrArg)
			sameList(t, what, got, nil)
		}
	}
	for _, workers := range append(wrongWorkers(), 1, 2, 64) {
		for _, items := range [][]int{nil, {}, {1}, {1, 2, 3}} {
			got, code := lanes.Map[int, int](items, workers, nil)
			what := fmt.Sprintf("Map of %v by %d without f", items, workers)
			same(t, what, code, api.ErrArg)
			sameList(t, what, got, nil)
		}
	}
}

// P6.1: at most workers times at a time, where each call takes its time.
func TestMapAtATime(t *testing.T) {
	for _, workers := range []int{1, 2, 3, 5, 64} {
		items := upTo(4*workers + 3)
		g := gaugeOf(len(items))
		_, code := lanes.Map(items, workers, func(i int) int {
			g.enter(i)
			defer g.leave()
			time.Sleep(2 * time.Millisecond)
			return i
		})
		what := fmt.Sprintf("Map by %d", workers)
		same(t, what, code, api.OK)
		g.onceEach(t, what, 0, len(items))
		g.ended(t, what, workers)
	}
}

// Ways: the work is spread: as many calls as there are workers go on at a time, if there are items for them.
func TestMapIsSpread(t *testing.T) {
	for _, workers := range []int{1, 2, 3, 64} {
		g := gaugeOf(workers)
		together := make(chan struct{})
		got, code := lanes.Map(upTo(workers), workers, func(i int) bool {
			if g.enter(i) == workers {
				close(together)
			}
			return wait(together, 10*time.Second)
		})
		what := fmt.Sprintf("%d calls at a time", workers)
		same(t, what, code, api.OK)
		for _, met := range got {
			if !met {
				t.Fatalf("%s: there were %d", what, g.most.Load())
			}
		}
	}
}

// Items of each length may be worked at in any order: the last ones first here.
func TestMapInAnyOrder(t *testing.T) {
	const n = 20
	ends := make([]chan struct{}, n+1)
	for i := range ends {
		ends[i] = make(chan struct{})
	}
	close(ends[n])
	got, code := lanes.Map(upTo(n), n, func(i int) int {
		wait(ends[i+1], 10*time.Second)
		close(ends[i])
		return i * i
	})
	same(t, "Map", code, api.OK)
	for i := range n {
		same(t, "what is answered of "+strconv.Itoa(i), got[i], i*i)
	}
}

// handedOn holds what Map makes of things against the things.
func handedOn[T comparable](t *testing.T, things ...T) {
	t.Helper()
	for _, workers := range []int{1, 3, 64} {
		got, code := lanes.Map(things, workers, func(x T) T { return x })
		same(t, "Map", code, api.OK)
		sameList(t, "things of other kinds", got, things)
		got, at, code := lanes.Gather(things, workers, func(_ int, x T) (T, api.Errno) { return x, api.OK })
		same(t, "Gather", code, api.OK)
		same(t, "Gather's place", at, -1)
		sameList(t, "things of other kinds", got, things)
	}
}

// P6.1, P6.2: things of several types, as they are.
func TestOtherKinds(t *testing.T) {
	handedOn(t, "", "a", "a\x00b", "\xff\xfe", string(make([]byte, 5000)))
	handedOn(t, api.Handle{Life: 1, Number: 2}, api.Handle{}, api.Handle{Number: -1})
	handedOn(t, [3]int{1, 2, 3}, [3]int{}, [3]int{1, 2, 3})
	handedOn[any](t, 1, "a", nil, 1.5, api.Handle{Life: 3})
	handedOn[error](t, api.ErrFull, nil, api.OK)
	handedOn(t, struct{}{}, struct{}{})
	handedOn(t, math.MaxInt64, math.MinInt64, 0)
	handedOn(t, true, false, true, true)
	handedOn(t, make(chan int), nil, make(chan int))
	one, other := &api.Request{Key: "a"}, &api.Request{Key: "a"}
	handedOn(t, one, other, nil, one)
}

// The types of items and answers may be unlike: functions, lists, nothing at all.
func TestUnlikeKinds(t *testing.T) {
	texts, code := lanes.Map([]int{3, 0, 2}, 2, func(n int) []string { return make([]string, n) })
	same(t, "Map to lists", code, api.OK)
	same(t, "Map to lists", fmt.Sprint(len(texts[0]), len(texts[1]), len(texts[2])), "3 0 2")
	calls, code := lanes.Map([]int{3, 1, 2}, 2, func(n int) func() int { return func() int { return n } })
	same(t, "Map to functions", code, api.OK)
	sums, code := lanes.Map(calls, 3, func(call func() int) float64 { return float64(call()) / 2 })
	same(t, "Map of functions", code, api.OK)
	sameList(t, "Map of functions", sums, []float64{1.5, 0.5, 1})
	none, code := lanes.Map(sums, 3, func(float64) struct{} { return struct{}{} })
	same(t, "Map to nothing", code, api.OK)
	same(t, "Map to nothing", len(none), 3)
}

// Words: lists are handed on as they are: the very same one, spare room too.
func TestListsAreHandedOn(t *testing.T) {
	room := []int{1, 2, 3, 4}
	got, code := lanes.Map([][]int{room[:2], nil, {}}, 2, func(list []int) []int { return list })
	same(t, "Map", code, api.OK)
	same(t, "the list's memory", &got[0][0], &room[0])
	same(t, "the list's length and room", fmt.Sprint(len(got[0]), cap(got[0])), fmt.Sprint(2, cap(room)))
	same(t, "none", got[1] == nil, true)
	same(t, "an empty one", got[2] != nil && len(got[2]) == 0, true)
	merged := lanes.Merge(func(a, b []int) int { return len(a) - len(b) }, [][]int{room[:2]}, [][]int{room[:1], nil})
	same(t, "merged lists", fmt.Sprint(merged), "[[1] [] [1 2]]")
	same(t, "a merged list's memory", &merged[2][0], &room[0])
	same(t, "a merged list's room", cap(merged[2]), cap(room))
}

// A function that is handed in may itself spread its work.
func TestWithinEachOther(t *testing.T) {
	got, code := lanes.Map(upTo(20), 8, func(n int) int {
		squares, at, code := lanes.Gather(upTo(n), 64, func(i, a int) (int, api.Errno) { return i * a, api.OK })
		if code != api.OK || at != -1 {
			return -1
		}
		sum := 0
		for _, x := range squares {
			sum += x
		}
		return sum
	})
	same(t, "Map", code, api.OK)
	want := 0
	for n := range 20 {
		same(t, "a sum of squares below "+strconv.Itoa(n), got[n], want)
		want += n * n
	}
}
