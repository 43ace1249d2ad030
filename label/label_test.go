package label_test

import (
	"fmt"
	"testing"

	"cloister/api"
	"cloister/label"
)

// P1.1
func TestPairsOfLabels(t *testing.T) {
	same(t, "Leq", []bool{label.Leq(1, 3), label.Leq(3, 1), label.Leq(0, 0), label.Leq(5, 6)}, []bool{true, false, true, false})
	same(t, "Join and Meet", set(label.Join(1, 6), label.Meet(3, 6), label.Meet(1, 6)), set(7, 2, 0))
	same(t, "the things 0 and 63", set(label.Join(1, top), label.Meet(top|1, top|2), label.Meet(1, top)), set(top|1, top, 0))
	for _, a := range samples() {
		for _, b := range samples() {
			same(t, fmt.Sprintf("Leq %x %x", a, b), label.Leq(a, b), atOrBelow(a, b))
			for i := range 64 {
				if has(label.Join(a, b), i) != (has(a, i) || has(b, i)) {
					t.Errorf("Join %x %x: thing %d", a, b, i)
				}
				if has(label.Meet(a, b), i) != (has(a, i) && has(b, i)) {
					t.Errorf("Meet %x %x: thing %d", a, b, i)
				}
			}
		}
	}
}

// P1.9
func TestOrder(t *testing.T) {
	for _, a := range samples() {
		if !label.Leq(a, a) {
			t.Errorf("%x is not at or below itself", a)
		}
		for _, b := range samples() {
			if label.Leq(a, b) && label.Leq(b, a) && a != b {
				t.Errorf("%x and %x are below each other", a, b)
			}
			same(t, fmt.Sprintf("%x by its union with %x", a, b), label.Leq(a, b), label.Join(a, b) == b)
			same(t, fmt.Sprintf("%x by its intersection with %x", a, b), label.Leq(a, b), label.Meet(a, b) == a)
			bounds(t, a, b)
		}
	}
}

// bounds holds Join and Meet against all labels of the samples: they are the least and the greatest.
func bounds(t *testing.T, a, b api.Label) {
	t.Helper()
	join, meet := label.Join(a, b), label.Meet(a, b)
	if !label.Leq(a, join) || !label.Leq(b, join) || !label.Leq(meet, a) || !label.Leq(meet, b) {
		t.Errorf("Join or Meet of %x and %x does not bound them", a, b)
	}
	for _, c := range samples() {
		if label.Leq(a, b) && label.Leq(b, c) && !label.Leq(a, c) {
			t.Errorf("%x, %x, %x: no order", a, b, c)
		}
		if label.Leq(a, c) && label.Leq(b, c) && !label.Leq(join, c) {
			t.Errorf("Join of %x and %x is not the least: %x", a, b, c)
		}
		if label.Leq(c, a) && label.Leq(c, b) && !label.Leq(c, meet) {
			t.Errorf("Meet of %x and %x is not the greatest: %x", a, b, c)
		}
	}
}

// P1.3
func TestPlace(t *testing.T) {
	for _, x := range []struct {
		labels []api.Label
		l      api.Label
		place  int
		found  bool
	}{
		{set(4, 2, 4), 4, 0, true}, {set(4, 2, 4), 2, 1, true}, {set(4, 2, 4), 3, 0, false},
		{nil, 0, 0, false}, {set(1), 0, 0, false}, {set(1), 1, 0, true},
		{set(9, 8, 7, 0), 0, 3, true}, {set(1, top, top), top, 1, true}, {set(1, 2), top, 0, false},
	} {
		place, found := label.Place(x.labels, x.l)
		same(t, fmt.Sprintf("Place %v %d", x.labels, x.l), []any{place, found}, []any{x.place, x.found})
	}
}

// P1.4
func TestDownUp(t *testing.T) {
	square := set(0, 1, 2, 3)
	same(t, "Down of 1", label.Down(square, 1), []int{0, 1})
	same(t, "Up of 1", label.Up(square, 1), []int{1, 3})
	same(t, "Down of 6, which is not there", label.Down(square, 6), []int{0, 2})
	same(t, "Up of 6, which is not there", label.Up(square, 6), []int{})
	same(t, "Up of 0", label.Up(set(1, 1), 0), []int{0, 1})
	same(t, "Down of 0", label.Down(set(1, 1), 0), []int{})
	same(t, "Down of none", label.Down(nil, 3), []int{})
	same(t, "Up of none", label.Up(nil, 3), []int{})
	for _, labels := range lists() {
		for _, l := range append(samples(), labels...) {
			var down, up []int
			for i, x := range labels {
				if atOrBelow(x, l) {
					down = append(down, i)
				}
				if atOrBelow(l, x) {
					up = append(up, i)
				}
			}
			same(t, fmt.Sprintf("Down %v %d", labels, l), label.Down(labels, l), down)
			same(t, fmt.Sprintf("Up %v %d", labels, l), label.Up(labels, l), up)
		}
	}
}
