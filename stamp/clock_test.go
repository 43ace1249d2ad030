package stamp_test

import (
	"testing"

	"cloister/api"
	"cloister/stamp"
)

// P12.1, P12.2, Limits: every start and window within the bounds is taken, and told.
func TestNew(t *testing.T) {
	for _, start := range stamps() {
		for _, window := range windows() {
			holds(t, "a new clock", made(t, start, window), start, window)
		}
	}
}

// P12.1, Limits: a start or a window out of the bounds, the other one within them or not.
func TestNewRefused(t *testing.T) {
	refused := func(start, window int) {
		t.Helper()
		c, code := stamp.New(start, window)
		if c != nil || code != api.ErrArg {
			t.Errorf("New(%d, %d): got %v, %v", start, window, c, code)
		}
	}
	for _, start := range noStamps() {
		for _, window := range append(windows(), noWindows()...) {
			refused(start, window)
		}
	}
	for _, window := range noWindows() {
		for _, start := range stamps() {
			refused(start, window)
		}
	}
}

// P12.2: a clock is worn at MaxStamp alone.
func TestWorn(t *testing.T) {
	for _, window := range windows() {
		same(t, "at MaxStamp", made(t, most, window).Worn(), true)
		same(t, "one below MaxStamp", made(t, most-1, window).Worn(), false)
		same(t, "at 0", made(t, 0, window).Worn(), false)
		same(t, "at the window", made(t, window, window).Worn(), false)
	}
}

// P12.2: the horizon, below 0 too, is the one that Now has at the time.
func TestHorizon(t *testing.T) {
	same(t, "the greatest window at 0", made(t, 0, wide).Horizon(), -wide)
	same(t, "the greatest window below it", made(t, wide-1, wide).Horizon(), -1)
	same(t, "the greatest window at it", made(t, wide, wide).Horizon(), 0)
	same(t, "the greatest window at MaxStamp", made(t, most, wide).Horizon(), most-wide)
	same(t, "no window at MaxStamp", made(t, most, 0).Horizon(), most)
	c := made(t, 0, 3)
	for _, want := range []int{-2, -1, 0, 1, 2} {
		c.Next()
		same(t, "behind a Next", c.Horizon(), want)
	}
	c.Set(1)
	same(t, "behind a Set", c.Horizon(), -2)
}

// P12.2: asking changes nothing: a clock that is asked much goes on as one that is not asked at all.
func TestAskingChangesNothing(t *testing.T) {
	for _, start := range stamps() {
		asked, left := made(t, start, 5), made(t, start, 5)
		for range 5 {
			for range 3 {
				asked.Now()
				asked.Worn()
				asked.Horizon()
				stamp.Take([]*stamp.Clock{asked, nil, asked}, []int{0, 1, 2, 3})
			}
			want, code := left.Next()
			sameNext(t, "a clock that is asked much", asked, want, code)
		}
		holds(t, "a clock that is asked much", asked, left.Now(), 5)
	}
}

// P12.3: each Next goes on by one, whatever the window.
func TestNext(t *testing.T) {
	for _, start := range stamps() {
		for _, window := range windows() {
			c := made(t, start, window)
			for n := start + 1; n <= start+4 && n <= most; n++ {
				sameNext(t, "below MaxStamp", c, n, api.OK)
				holds(t, "behind a Next", c, n, window)
			}
		}
	}
}

// P12.3, Limits: at MaxStamp there is no next one, and nothing changes, however often it is asked for.
func TestNextWorn(t *testing.T) {
	for below := range 4 {
		for _, window := range windows() {
			c := made(t, most-below, window)
			for n := most - below + 1; n <= most; n++ {
				sameNext(t, "up to MaxStamp", c, n, api.OK)
			}
			for range 3 {
				sameNext(t, "at MaxStamp", c, 0, api.ErrWorn)
				holds(t, "at MaxStamp", c, most, window)
			}
			same(t, "Set", c.Set(most-1), api.OK)
			sameNext(t, "no more at MaxStamp", c, most, api.OK)
			sameNext(t, "at MaxStamp again", c, 0, api.ErrWorn)
		}
	}
}

// P12.4: a clock may be set to every stamp, below, at and above Now; the window stays.
func TestSet(t *testing.T) {
	for _, start := range stamps() {
		for _, n := range stamps() {
			c := made(t, start, 9)
			same(t, "Set", c.Set(n), api.OK)
			holds(t, "behind a Set", c, n, 9)
			if n == most {
				sameNext(t, "set to MaxStamp", c, 0, api.ErrWorn)
			} else {
				sameNext(t, "behind a Set", c, n+1, api.OK)
			}
		}
	}
}

// P12.4, Limits: a number that is no stamp is refused, and nothing changes.
func TestSetRefused(t *testing.T) {
	for _, start := range stamps() {
		c := made(t, start, 9)
		for _, n := range noStamps() {
			same(t, "Set of no stamp", c.Set(n), api.ErrArg)
			holds(t, "behind a Set that is refused", c, start, 9)
		}
		if start < most {
			sameNext(t, "behind Sets that are refused", c, start+1, api.OK)
		}
	}
}

// P12.3, P12.4, P12.7, the order of errors: a clock that is not there.
func TestNoClock(t *testing.T) {
	var none *stamp.Clock
	for range 2 {
		same(t, "Now", none.Now(), 0)
		same(t, "Horizon", none.Horizon(), 0)
		same(t, "Worn", none.Worn(), false)
		sameNext(t, "none", none, 0, api.ErrNil)
		for _, n := range append(stamps(), noStamps()...) {
			same(t, "Set", none.Set(n), api.ErrNil)
		}
	}
}

// The chapter's examples of a clock, one behind the other.
func TestExamplesOfAClock(t *testing.T) {
	c := made(t, 7, 3)
	holds(t, "New(7, 3)", c, 7, 3)
	same(t, "Horizon", c.Horizon(), 4)
	sameNext(t, "the first one", c, 8, api.OK)
	sameNext(t, "the second one", c, 9, api.OK)
	same(t, "Now", c.Now(), 9)
	same(t, "Horizon", c.Horizon(), 6)
	same(t, "Set(1)", c.Set(1), api.OK)
	same(t, "Horizon", c.Horizon(), -2)
	same(t, "Set(-1)", c.Set(-1), api.ErrArg)
	same(t, "Now", c.Now(), 1)
	same(t, "Set(2^62)", c.Set(1<<62), api.OK)
	same(t, "Worn", c.Worn(), true)
	sameNext(t, "worn", c, 0, api.ErrWorn)
	same(t, "Now", c.Now(), 1<<62)
	for _, r := range [][2]int{{-1, 0}, {1<<62 + 1, 0}, {0, 1<<20 + 1}} {
		c, code := stamp.New(r[0], r[1])
		same(t, "New out of the bounds", code, api.ErrArg)
		same(t, "beside an error", c, nil)
	}
	same(t, "New(0, 2^20): Horizon", made(t, 0, 1<<20).Horizon(), -1<<20)
}
