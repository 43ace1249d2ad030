package stamp_test

import (
	"fmt"
	"math"
	"runtime"
	"slices"
	"testing"
	"weak"

	"cloister/api"
	"cloister/stamp"
)

// P12.11, Memory: neither list that is handed to Take is changed, spare room included.
func TestTakeChangesNothing(t *testing.T) {
	spare := made(t, 9, 9)
	clocks := append(row(t, 4, 5, -1, 6), spare, nil, spare)[:4]
	places := append([]int{3, 0, 2, 9, -1, 0}, 1, 2, 3)[:6]
	wholeClocks, wholePlaces := slices.Clone(clocks[:7]), slices.Clone(places[:9])
	for range 2 {
		sameVector(t, "Take", stamp.Take(clocks, places), []int{4, -1, -1, 6})
		same(t, "the clocks", slices.Equal(clocks[:7], wholeClocks), true)
		sameVector(t, "the places", places[:9], wholePlaces)
	}
	for i, n := range map[int]int{0: 4, 1: 5, 3: 6} {
		holds(t, "a clock that was asked", clocks[i], n, i)
	}
	holds(t, "a clock in the spare room", spare, 9, 9)
}

// P12.11, Memory: neither vector that is handed to Below is changed, spare room included.
func TestBelowChangesNothing(t *testing.T) {
	for _, r := range [][2][]int{{{1, 2, 9, 9}, {1, 3, 8, 8}}, {{1, 3, 9, 9}, {1, 2, 8, 8}}, {{5, 1, 9, 9}, {0, 7, 8, 8}}} {
		a, b := slices.Clone(r[0]), slices.Clone(r[1])
		for length := range 5 {
			stamp.Below(a[:2], b[:length])
			stamp.Below(b[:length], a[:2])
		}
		sameVector(t, "the one", a, r[0])
		sameVector(t, "the other", b, r[1])
	}
}

// P12.11, Memory: what is handed in is not kept: writing over it changes no answer.
func TestNothingKept(t *testing.T) {
	clocks, places := row(t, 4, 5, 6), []int{0, 2}
	v := stamp.Take(clocks, places)
	all := slices.Clone(clocks)
	clear(clocks)
	places[0], places[1] = 1, 1
	sameVector(t, "written over", v, []int{4, -1, 6})
	sameVector(t, "the clocks that went out of the list", stamp.Take(all, []int{0, 1, 2}), []int{4, 5, 6})
	sameVector(t, "a list of none", stamp.Take(clocks, []int{0, 1, 2}), []int{-1, -1, -1})
}

// Memory: lists that are handed in, and clocks, are let go behind the call.
func TestHandedInIsLetGo(t *testing.T) {
	clocks := make([]*stamp.Clock, 1<<10)
	clocks[3] = made(t, 4, 0)
	places := make([]int, 1<<10)
	places[0] = 3
	list, clock, numbers := weak.Make(&clocks[0]), weak.Make(clocks[3]), weak.Make(&places[0])
	v := stamp.Take(clocks, places)
	runtime.GC()
	same(t, "the list of clocks is held on to", list.Value() != nil, false)
	same(t, "a clock is held on to", clock.Value() != nil, false)
	same(t, "the list of places is held on to", numbers.Value() != nil, false)
	same(t, "the vector", v[3], 4)
	runtime.KeepAlive(v)
}

// P12.11, Memory: a vector is new memory, spare room too: writing over it changes no other one, no clock and nothing that was handed in.
func TestVectorsAreNew(t *testing.T) {
	for length := range 18 {
		at := make([]int, length)
		places := make([]int, length)
		for i := range at {
			at[i], places[i] = i, i
		}
		clocks := row(t, at...)
		one, two := stamp.Take(clocks, places), stamp.Take(clocks, places)
		one = one[:cap(one)]
		for i := range one {
			one[i] = -7
		}
		one = append(one, -8)
		sameVector(t, fmt.Sprint(length, ": another vector"), two, at)
		sameVector(t, fmt.Sprint(length, ": a later vector"), stamp.Take(clocks, places), at)
		sameVector(t, fmt.Sprint(length, ": what was handed in"), places, at)
		for i, c := range clocks {
			holds(t, "a clock behind a vector that was written over", c, i, i)
		}
	}
}

// P12.11: what clocks do later changes no earlier vector.
func TestVectorsStay(t *testing.T) {
	clocks, places := row(t, 4, most-1, -1, 0), []int{0, 1, 2, 3}
	v := stamp.Take(clocks, places)
	for range 5 {
		clocks[0].Next()
		clocks[1].Next()
		clocks[3].Set(77)
		stamp.Take(clocks, places)
		sameVector(t, "an earlier vector", v, []int{4, most - 1, -1, 0})
	}
}

// P12.11: two clocks know nothing of each other, also two that were made alike.
func TestClocksBesideEachOther(t *testing.T) {
	a, b, c := made(t, 3, 1), made(t, 3, 1), made(t, most, wide)
	for n := 4; n < 50; n++ {
		sameNext(t, "the one that goes on", a, n, api.OK)
		holds(t, "the one made alike", b, 3, 1)
		holds(t, "the one made otherwise", c, most, wide)
	}
	same(t, "Set", a.Set(0), api.OK)
	same(t, "a Set that is refused", b.Set(-1), api.ErrArg)
	sameNext(t, "the one that is worn", c, 0, api.ErrWorn)
	_, code := stamp.New(-1, 9)
	same(t, "a New that is refused", code, api.ErrArg)
	made(t, 8, 8)
	holds(t, "the first one", a, 0, 1)
	holds(t, "the second one", b, 3, 1)
	holds(t, "the third one", c, most, wide)
}

// W0: every call ends at numbers of every greatness, and none panics; beside an error all else is zero.
func TestEveryCallEnds(t *testing.T) {
	numbers := append(append(stamps(), noStamps()...), noWindows()...)
	for _, a := range numbers {
		for _, b := range numbers {
			c, code := stamp.New(a, b)
			same(t, fmt.Sprint("New of ", a, b), c == nil, code != api.OK)
			c.Now()
			c.Horizon()
			c.Worn()
			c.Set(b)
			n, code := c.Next()
			same(t, "a stamp beside an error", n == 0, code != api.OK)
			stamp.Take([]*stamp.Clock{c, nil}, []int{a, b, 0, 1})
			stamp.Below([]int{a, b}, []int{b, a})
		}
	}
	stamp.Take(nil, nil)
	stamp.Take([]*stamp.Clock{nil, nil}, []int{math.MinInt, math.MaxInt, 0, 1, 2})
}
