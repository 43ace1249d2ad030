package lanes_test

import (
	"fmt"
	"math/rand"
	"runtime"
	"sort"
	"testing"
	"time"

	"cloister/api"
	"cloister/lanes"
)

// P6.4: behind a call's answer no goroutine of it is left: whatever was answered, with few items and many.
func TestNoGoroutineIsLeft(t *testing.T) {
	before := runtime.NumGoroutine()
	for _, n := range numbersOfItems() {
		for _, workers := range []int{0, 1, 2, 8, 64, 65} {
			lanes.Map(upTo(n), workers, func(i int) int { return i })
			lanes.Map[int, int](upTo(n), workers, nil)
			lanes.Gather[int, int](upTo(n), workers, nil)
			for _, refused := range []int{-1, 0, 1, n / 2, n - 1} {
				lanes.Gather(upTo(n), workers, func(i, a int) (int, api.Errno) {
					if i == refused {
						return 0, api.ErrFull
					}
					return i, api.OK
				})
			}
			lanes.Gather(upTo(n), workers, func(i, a int) (int, api.Errno) { return 0, api.ErrRange })
		}
		noneLeft(t, fmt.Sprintf("%d items", n), before)
	}
	lanes.Merge(byNumber, things(upTo(50), upTo(70))...)
	noneLeft(t, "Merge", before)
}

// P6.4: a call does not answer while f goes on with an item that stands behind a refused one.
func TestWaitsForAll(t *testing.T) {
	for _, workers := range []int{2, 5, 64} {
		g := gaugeOf(workers)
		others := make(chan struct{})
		_, at, code := lanes.Gather(upTo(workers), workers, func(i, a int) (int, api.Errno) {
			g.enter(i)
			defer g.leave()
			if i == 0 {
				wait(others, 10*time.Second)
				return 0, api.ErrFull
			}
			if i == workers-1 {
				close(others)
			}
			time.Sleep(20 * time.Millisecond)
			return i, api.OK
		})
		what := fmt.Sprintf("slow calls behind a refused one, by %d", workers)
		same(t, what, code, api.ErrFull)
		same(t, what+": the place", at, 0)
		g.ended(t, what, workers)
		g.onceEach(t, what, 0, workers)
	}
}

// P6.4: so too if all go well; what f writes into its own place can be read behind the answer.
func TestWritesAreSeen(t *testing.T) {
	for _, workers := range []int{1, 3, 64} {
		for range 50 {
			places := make([]int, 200)
			lanes.Map(upTo(200), workers, func(i int) int {
				places[i] = i
				return 0
			})
			sameList(t, "what f wrote", places, upTo(200))
		}
	}
}

// P6.5: with every number of workers Map and Gather answer the same.
func TestWorkersAreNotSeen(t *testing.T) {
	r := rand.New(rand.NewSource(65))
	for range 30 {
		items := make([]int, r.Intn(150))
		codes := make([]api.Errno, len(items))
		chance := []int{0, 0, 2, 20, 500}[r.Intn(5)]
		for i := range items {
			items[i] = r.Intn(1000)
			if r.Intn(1000) < chance {
				codes[i] = api.Errno(1 + r.Intn(200))
			}
		}
		place, refused := firstOf(codes)
		var want []int
		for i, a := range items {
			want = append(want, a*a+i)
		}
		for workers := 1; workers <= api.MaxWorkers; workers++ {
			what := fmt.Sprintf("%d items by %d", len(items), workers)
			got, at, code := lanes.Gather(items, workers, func(i, a int) (int, api.Errno) {
				linger(a)
				return a*a + i, codes[i]
			})
			same(t, what, code, refused)
			same(t, what+": the place", at, place)
			if refused == api.OK {
				sameList(t, what, got, want)
			} else {
				sameList(t, what, got, nil)
			}
			mapped, code := lanes.Map(items, workers, func(a int) int { return -a })
			same(t, what, code, api.OK)
			for i, a := range items {
				if mapped[i] != -a {
					t.Fatalf("%s: Map at %d: got %d, want %d", what, i, mapped[i], -a)
				}
			}
		}
	}
}

// P6.6: all things of all lists are there, those of each list in their order, whatever order answers.
func TestNothingIsLost(t *testing.T) {
	r := rand.New(rand.NewSource(66))
	all := orders()
	all["none"] = nil
	for name, order := range all {
		for range 100 {
			lists := someLists(r, r.Intn(10), 9)
			merged := lanes.Merge(order, lists...)
			next, count := make([]int, len(lists)), 0
			for _, x := range merged {
				if x.place != next[x.list] || x != lists[x.list][x.place] {
					t.Fatalf("%s: of the list %d the thing %v, where %d was next", name, x.list, x, next[x.list])
				}
				next[x.list]++
			}
			for _, list := range lists {
				count += len(list)
			}
			same(t, name+": how many", len(merged), count)
		}
	}
}

// P6.7: lists that don't fall make one that doesn't; what is alike stands by list, then by place.
func TestRisingLists(t *testing.T) {
	r := rand.New(rand.NewSource(67))
	for range 600 {
		numbers := make([][]int, r.Intn(10))
		for at := range numbers {
			for range r.Intn(12) {
				numbers[at] = append(numbers[at], r.Intn(7))
			}
			sort.Ints(numbers[at])
		}
		lists := things(numbers...)
		want := behind(lists)
		sort.SliceStable(want, func(i, j int) bool { return want[i].number < want[j].number })
		sameList(t, fmt.Sprint("rising lists ", numbers), lanes.Merge(byNumber, lists...), want)
	}
}
