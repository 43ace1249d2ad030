package stamp_test

import (
	"fmt"
	"math"
	"math/rand"
	"slices"
	"testing"

	"cloister/api"
	"cloister/stamp"
)

// The limits as the chapter writes them.
const (
	most = 1 << 62 // MaxStamp
	wide = 1 << 20 // MaxWindow
)

// same holds an answer against what is wanted.
func same[A comparable](t *testing.T, what string, got, want A) {
	t.Helper()
	if got != want {
		t.Errorf("%.300s: got %.300s, want %.300s", what, fmt.Sprint(got), fmt.Sprint(want))
	}
}

// sameVector holds a vector against what is wanted; nil and empty ones are the same.
func sameVector(t *testing.T, what string, got, want []int) {
	t.Helper()
	if !slices.Equal(got, want) {
		t.Errorf("%.300s: got %.300s, want %.300s", what, fmt.Sprint(got), fmt.Sprint(want))
	}
}

// made is a clock that New must make.
func made(t *testing.T, start, window int) *stamp.Clock {
	t.Helper()
	c, code := stamp.New(start, window)
	if c == nil || code != api.OK {
		t.Fatalf("New(%d, %d): got %v, %v", start, window, c, code)
	}
	return c
}

// row is clocks at these stamps, none where a stamp is below 0.
func row(t *testing.T, stamps ...int) []*stamp.Clock {
	t.Helper()
	clocks := make([]*stamp.Clock, len(stamps))
	for i, n := range stamps {
		if n >= 0 {
			clocks[i] = made(t, n, i)
		}
	}
	return clocks
}

// holds holds all that a clock tells against its stamp and its window; it asks twice, since asking must change nothing.
func holds(t *testing.T, what string, c *stamp.Clock, now, window int) {
	t.Helper()
	for range 2 {
		same(t, what+": Now", c.Now(), now)
		same(t, what+": Worn", c.Worn(), now == most)
		same(t, what+": Horizon", c.Horizon(), now-window)
	}
}

// sameNext holds what Next answers against what is wanted.
func sameNext(t *testing.T, what string, c *stamp.Clock, want int, code api.Errno) {
	t.Helper()
	got, is := c.Next()
	if got != want || is != code {
		t.Errorf("%s: Next: got %d %v, want %d %v", what, got, is, want, code)
	}
}

// stamps is stamps small and great.
func stamps() []int {
	return []int{0, 1, 2, 7, 255, 256, wide - 1, wide, wide + 1, 1<<31 - 1, 1 << 31, 1<<32 - 1, 1 << 32, 1<<53 + 1, most/2 - 1, most / 2, most - 2, most - 1, most}
}

// windows is windows small and great.
func windows() []int { return []int{0, 1, 2, 3, 255, wide - 1, wide} }

// noStamps is numbers that are no stamps.
func noStamps() []int {
	return []int{-1, -2, -wide, -most, -most - 1, math.MinInt, math.MinInt + 1, most + 1, most + 2, most + most/2, math.MaxInt - 1, math.MaxInt}
}

// noWindows is numbers that are no windows.
func noWindows() []int {
	return []int{-1, -2, -wide, -most, math.MinInt, math.MinInt + 1, wide + 1, wide + 2, 2 * wide, 1<<32 + 1, most, most + 1, math.MaxInt - 1, math.MaxInt}
}

// vectors is all vectors of at most so many numbers, each from -1 up to a greatest one.
func vectors(length, greatest int) [][]int {
	all, last := [][]int{{}}, [][]int{{}}
	for range length {
		var next [][]int
		for _, v := range last {
			for n := -1; n <= greatest; n++ {
				next = append(next, append(slices.Clone(v), n))
			}
		}
		all, last = append(all, next...), next
	}
	return all
}

// taken is what Take must answer of clocks at these stamps (below 0: none), told by going through the numbers of the vector, not through the places.
func taken(stamps, places []int) []int {
	vector := make([]int, 0, len(stamps))
	for i, n := range stamps {
		if n >= 0 && slices.Contains(places, i) {
			vector = append(vector, n)
		} else {
			vector = append(vector, -1)
		}
	}
	return vector
}

// placesBy is places by chance, some of which are none of so many clocks, and some there twice.
func placesBy(r *rand.Rand, clocks int) []int {
	places := make([]int, r.Intn(2*clocks+3))
	for i := range places {
		places[i] = r.Intn(clocks+4) - 2
	}
	return places
}

// stampsBy is stamps by chance, some of them none.
func stampsBy(r *rand.Rand, length int) []int {
	all := make([]int, length)
	for i := range all {
		all[i] = r.Intn(9) - 2
		if r.Intn(8) == 0 {
			all[i] = most - r.Intn(3)
		}
	}
	return all
}
