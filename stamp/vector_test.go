package stamp_test

import (
	"fmt"
	"math"
	"math/rand"
	"testing"

	"cloister/api"
	"cloister/stamp"
)

// P12.5: the vector is as long as the clocks, and each place alone has its Now.
func TestTakeOnePlace(t *testing.T) {
	for length := range 20 {
		at := make([]int, length)
		for i := range at {
			at[i] = 10 + i
		}
		clocks := row(t, at...)
		for place := -2; place < length+2; place++ {
			sameVector(t, fmt.Sprint("of ", length, " clocks the place ", place), stamp.Take(clocks, []int{place}), taken(at, []int{place}))
		}
		all := make([]int, length)
		for i := range all {
			all[i] = length - 1 - i
		}
		sameVector(t, "all places, from the last on", stamp.Take(clocks, all), at)
	}
}

// P12.5: no clocks, and no places.
func TestTakeOfNone(t *testing.T) {
	for _, places := range [][]int{nil, {}, {0}, {-1}, {0, 1, 2}} {
		sameVector(t, "no clocks", stamp.Take(nil, places), nil)
		sameVector(t, "no clocks", stamp.Take([]*stamp.Clock{}, places), nil)
	}
	for length := range 20 {
		at := make([]int, length)
		want := taken(at, nil)
		sameVector(t, "no places", stamp.Take(row(t, at...), nil), want)
		sameVector(t, "no places", stamp.Take(row(t, at...), []int{}), want)
		sameVector(t, "clocks none of which is there", stamp.Take(make([]*stamp.Clock, length), []int{0, 1, length - 1}), want)
	}
}

// P12.5: a clock that is not there is -1, which one at 0 is not.
func TestTakeOfClocksThatAreNotThere(t *testing.T) {
	all := []int{0, 1, 2, 3}
	for _, at := range vectors(4, 1) {
		clocks := row(t, at...)
		sameVector(t, fmt.Sprint("clocks at ", at), stamp.Take(clocks, all), at)
		for _, places := range [][]int{{0}, {3}, {1, 2}, {0, 3}, {2, 1, 0}, {3, 3}} {
			sameVector(t, fmt.Sprint("clocks at ", at, ", the places ", places), stamp.Take(clocks, places), taken(at, places))
		}
	}
}

// P12.5: numbers that are no places count for nothing, wherever they stand.
func TestTakeOfNoPlaces(t *testing.T) {
	far := []int{-1, -2, -3, -4, 3, 4, 6, wide, most, most + 1, 1 << 32, 1<<32 + 1, -1 << 32, math.MaxInt, math.MaxInt - 1, math.MinInt, math.MinInt + 1, math.MinInt + 2}
	clocks := row(t, 4, 5, 6)
	sameVector(t, "no place at all", stamp.Take(clocks, far), []int{-1, -1, -1})
	for _, n := range far {
		sameVector(t, fmt.Sprint(n), stamp.Take(clocks, []int{n}), []int{-1, -1, -1})
		sameVector(t, fmt.Sprint(n, " ahead"), stamp.Take(clocks, []int{n, 1}), []int{-1, 5, -1})
		sameVector(t, fmt.Sprint(n, " behind"), stamp.Take(clocks, []int{1, n}), []int{-1, 5, -1})
		sameVector(t, fmt.Sprint(n, " between"), stamp.Take(clocks, []int{2, n, n, 0}), []int{4, -1, 6})
	}
}

// P12.5: a place that is there twice counts once, and the order of places counts for nothing; one clock may stand at two places.
func TestTakeTwice(t *testing.T) {
	clocks := row(t, 4, 5, 6)
	for _, places := range [][]int{{0, 2}, {2, 0}, {0, 0, 2}, {0, 2, 0}, {2, 2, 0, 0, 2, 0}} {
		sameVector(t, fmt.Sprint(places), stamp.Take(clocks, places), []int{4, -1, 6})
	}
	for _, c := range clocks {
		sameNext(t, "behind places that were there twice", c, c.Now()+1, api.OK)
	}
	c := made(t, 7, 1)
	twins := []*stamp.Clock{c, nil, c}
	sameVector(t, "one clock at two places", stamp.Take(twins, []int{0, 1, 2}), []int{7, -1, 7})
	sameVector(t, "one of its places", stamp.Take(twins, []int{2}), []int{-1, -1, 7})
}

// P12.5: the clocks are asked at the call, at every stamp.
func TestTakeAsksAtTheCall(t *testing.T) {
	clocks, places := row(t, 4, most-1, -1, 0), []int{0, 1, 2, 3}
	sameVector(t, "at first", stamp.Take(clocks, places), []int{4, most - 1, -1, 0})
	clocks[0].Next()
	clocks[1].Next()
	sameVector(t, "behind Nexts", stamp.Take(clocks, places), []int{5, most, -1, 0})
	clocks[1].Next()
	clocks[0].Set(0)
	clocks[3].Set(most)
	sameVector(t, "behind Sets", stamp.Take(clocks, places), []int{0, most, -1, most})
	clocks[2] = made(t, 3, 0)
	clocks[0] = nil
	sameVector(t, "behind a clock that came and one that went", stamp.Take(clocks, places), []int{-1, most, 3, most})
	for _, n := range stamps() {
		sameVector(t, "a stamp", stamp.Take(row(t, n), []int{0}), []int{n})
	}
}

// P12.5: clocks and places by chance.
func TestTakeByChance(t *testing.T) {
	r := rand.New(rand.NewSource(125))
	for range 5000 {
		at := stampsBy(r, r.Intn(18))
		places := placesBy(r, len(at))
		sameVector(t, fmt.Sprint("clocks at ", at, ", places ", places), stamp.Take(row(t, at...), places), taken(at, places))
	}
}

// P12.5: many clocks and many places.
func TestTakeOfMany(t *testing.T) {
	const many = 1 << 16
	at, places := make([]int, many), make([]int, 0, 2*many)
	for i := range at {
		at[i] = i + 1
		places = append(places, i, many-1-i)
	}
	sameVector(t, "many", stamp.Take(row(t, at...), places), at)
}

// lessEverywhere is Below by the chapter's words.
func lessEverywhere(a, b []int) bool {
	if len(a) != len(b) {
		return false
	}
	count := 0
	for i := range a {
		if a[i] <= b[i] {
			count++
		}
	}
	return count == len(a)
}

// P12.6: all small vectors, of one length and of unlike ones.
func TestBelow(t *testing.T) {
	all := vectors(4, 2)
	for _, a := range all {
		for _, b := range all {
			if got, want := stamp.Below(a, b), lessEverywhere(a, b); got != want {
				t.Fatalf("Below(%v, %v): got %v, want %v", a, b, got, want)
			}
		}
	}
}

// P12.6: vectors of unlike lengths, of which one begins the other or not.
func TestBelowOfUnlikeLengths(t *testing.T) {
	for _, r := range [][2][]int{{nil, {0}}, {nil, {-1}}, {{1}, {1, 2}}, {{0}, {5, 5}}, {{1, 2}, {1, 2, 3}}, {{-1, -1}, {0, 0, 0}}, {{math.MinInt}, {math.MaxInt, 0}}} {
		same(t, fmt.Sprint(r[0], r[1]), stamp.Below(r[0], r[1]), false)
		same(t, fmt.Sprint(r[1], r[0]), stamp.Below(r[1], r[0]), false)
	}
	for _, none := range [][]int{nil, {}} {
		same(t, "of none", stamp.Below(none, nil), true)
		same(t, "of none", stamp.Below(none, []int{}), true)
	}
}

// P12.6: any numbers stand in a vector, and are held against each other as they are.
func TestBelowOfGreatNumbers(t *testing.T) {
	rising := []int{math.MinInt, math.MinInt + 1, -most, -1, 0, 1, 1<<31 - 1, 1 << 31, 1<<32 - 1, 1 << 32, 1 << 53, 1<<53 + 1, most - 1, most, most + 1, math.MaxInt - 1, math.MaxInt}
	for i, a := range rising {
		for j, b := range rising {
			same(t, fmt.Sprint(a, b), stamp.Below([]int{a}, []int{b}), i <= j)
			same(t, fmt.Sprint("the last of three: ", a, b), stamp.Below([]int{0, 0, a}, []int{1, 0, b}), i <= j)
			same(t, fmt.Sprint("the first of three: ", a, b), stamp.Below([]int{a, 0, 0}, []int{b, 1, 0}), i <= j)
		}
	}
}

// P12.6: of long vectors each place counts.
func TestBelowOfLongVectors(t *testing.T) {
	for _, length := range []int{16, 17, 100} {
		a, b := make([]int, length), make([]int, length)
		same(t, "the same", stamp.Below(a, b), true)
		for i := range a {
			a[i] = 1
			same(t, "one is above", stamp.Below(a, b), false)
			same(t, "one is below", stamp.Below(b, a), true)
			a[i] = 0
		}
	}
}

// The chapter's examples of vectors.
func TestExamplesOfVectors(t *testing.T) {
	sameVector(t, "Take", stamp.Take(row(t, 4, 5, -1, 6), []int{3, 0, 2, 9, -1, 0}), []int{4, -1, -1, 6})
	sameVector(t, "Take of no clocks", stamp.Take(nil, []int{0}), nil)
	sameVector(t, "Take of no places", stamp.Take(row(t, 4), nil), []int{-1})
	same(t, "Below(1 2, 1 3)", stamp.Below([]int{1, 2}, []int{1, 3}), true)
	same(t, "Below(1 3, 1 2)", stamp.Below([]int{1, 3}, []int{1, 2}), false)
	same(t, "Below(1, 1 2)", stamp.Below([]int{1}, []int{1, 2}), false)
	same(t, "Below(nothing, nothing)", stamp.Below(nil, nil), true)
}
