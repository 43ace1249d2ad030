package stamp_test

import (
	"fmt"
	"math/rand"
	"slices"
	"testing"

	"cloister/api"
	"cloister/stamp"
)

// P12.8: from one Next that is OK to the following one the answer grows by one, also over calls that are refused or only ask.
func TestOneByOne(t *testing.T) {
	for _, start := range []int{0, 5, 1<<32 - 50, most - 100} {
		c := made(t, start, 3)
		for n := start + 1; n <= start+100; n++ {
			sameNext(t, "one by one", c, n, api.OK)
			c.Set(-1)
			c.Set(most + 1)
			c.Now()
			c.Worn()
			c.Horizon()
			stamp.Take([]*stamp.Clock{c}, []int{0, 0})
		}
	}
}

// P12.8: over rows of calls by chance a clock is what the chapter's words say: it stands from 0 to MaxStamp, and its horizon is its window below that.
func TestRowsOfCalls(t *testing.T) {
	r := rand.New(rand.NewSource(128))
	numbers := append(stamps(), noStamps()...)
	for range 200 {
		now, window := stamps()[r.Intn(len(stamps()))], windows()[r.Intn(len(windows()))]
		c := made(t, now, window)
		for range 200 {
			if n := numbers[r.Intn(len(numbers))]; r.Intn(4) == 0 {
				code := c.Set(n)
				if n >= 0 && n <= most {
					now = n
					same(t, "Set", code, api.OK)
				} else {
					same(t, "Set", code, api.ErrArg)
				}
			} else if now == most {
				sameNext(t, "a row of calls", c, 0, api.ErrWorn)
			} else {
				now++
				sameNext(t, "a row of calls", c, now, api.OK)
			}
			holds(t, "a row of calls", c, now, window)
			same(t, "never above MaxStamp, never below 0", c.Now() >= 0 && c.Now() <= most, true)
			same(t, "a horizon never above Now", c.Horizon() <= c.Now(), true)
		}
	}
}

// P12.9: each vector is Below itself, and no two unlike ones are each Below the other.
func TestBelowOfTwo(t *testing.T) {
	all := vectors(4, 2)
	for _, a := range all {
		same(t, fmt.Sprint(a), stamp.Below(a, slices.Clone(a)), true)
		same(t, fmt.Sprint(a), stamp.Below(a, a), true)
		for _, b := range all {
			if stamp.Below(a, b) && stamp.Below(b, a) && !slices.Equal(a, b) {
				t.Fatalf("%v and %v are each Below the other", a, b)
			}
		}
	}
}

// P12.9: of three vectors the first is Below the last if the second stands between them.
func TestBelowOfThree(t *testing.T) {
	all := vectors(3, 1)
	for _, a := range all {
		for _, b := range all {
			for _, c := range all {
				if stamp.Below(a, b) && stamp.Below(b, c) && !stamp.Below(a, c) {
					t.Fatalf("%v is Below %v, that Below %v, but not the first Below the last", a, b, c)
				}
			}
		}
	}
}

// moved tells whether some clock that counts at these places is among those that went on.
func moved(went []int, clocks []*stamp.Clock, places []int) bool {
	for _, i := range went {
		if slices.Contains(places, i) && clocks[i] != nil {
			return true
		}
	}
	return false
}

// P12.10: while clocks go on by Next alone, an earlier vector of some places is Below each later one of these, and the same just if none of their clocks went on.
func TestSnapshotsGrow(t *testing.T) {
	r := rand.New(rand.NewSource(1210))
	for range 500 {
		clocks := row(t, stampsBy(r, 1+r.Intn(6))...)
		places := placesBy(r, len(clocks))
		var taken [][]int
		var went [][]int // of each vector, which clocks have gone on since
		for range 20 {
			taken, went = append(taken, stamp.Take(clocks, places)), append(went, nil)
			last := taken[len(taken)-1]
			for j, v := range taken {
				same(t, fmt.Sprint(v, " taken earlier than ", last), stamp.Below(v, last), true)
				same(t, fmt.Sprint(v, " and ", last, " are the same"), slices.Equal(v, last), !moved(went[j], clocks, places))
				same(t, fmt.Sprint(last, " Below ", v), stamp.Below(last, v), !moved(went[j], clocks, places))
			}
			if i := r.Intn(len(clocks)); r.Intn(2) == 0 {
				if _, code := clocks[i].Next(); code == api.OK {
					for j := range went {
						went[j] = append(went[j], i)
					}
				}
			}
		}
	}
}
