package label_test

import (
	"fmt"
	"maps"
	"math/rand"
	"slices"
	"testing"

	"cloister/api"
	"cloister/label"
)

// P1.2
func TestCheck(t *testing.T) {
	falling := chainOf(17)
	slices.Reverse(falling)
	for _, x := range []struct {
		what   string
		labels []api.Label
		want   api.Errno
	}{
		{"none", nil, api.ErrCount},
		{"an empty list", set(), api.ErrCount},
		{"one", set(5), api.OK},
		{"one without a thing", set(0), api.OK},
		{"one with all things", set(^api.Label(0)), api.OK},
		{"a square", set(0, 1, 2, 3), api.OK},
		{"16 in a chain", chainOf(16), api.OK},
		{"16 in a cube", cube(4), api.OK},
		{"17 in a chain", chainOf(17), api.ErrCount},
		{"17 that do not rise", falling, api.ErrCount},
		{"17 that are not closed", append(chainOf(16), top), api.ErrCount},
		{"falling", set(1, 0), api.ErrRising},
		{"twice", set(1, 1), api.ErrRising},
		{"falling at the end", set(0, 1, 3, 2), api.ErrRising},
		{"16 that fall", falling[:16], api.ErrRising},
		{"falling and not closed", set(2, 1), api.ErrRising},
		{"twice and not closed", set(1, 2, 2), api.ErrRising},
		{"the thing 63, rising", set(0, 1, top, top|1), api.OK},
		{"the thing 63, falling", set(top, 0), api.ErrRising},
		{"both missing", set(1, 2), api.ErrClosed},
		{"the union missing", set(0, 1, 2), api.ErrClosed},
		{"the intersection missing", set(1, 2, 3), api.ErrClosed},
		{"the union of the last two missing", set(0, 1, 2, 3, 8), api.ErrClosed},
		{"16, one of them beside the chain", append(chainOf(15), top), api.ErrClosed},
		{"the thing 63, the union missing", set(0, 1, top), api.ErrClosed},
	} {
		same(t, "Check of "+x.what, label.Check(x.labels), x.want)
	}
}

// P1.2: each set of labels of three things.
func TestCheckOfAllSmallSets(t *testing.T) {
	for mask := range 1 << 8 {
		labels := subset(cube(3), mask)
		want := api.OK
		if len(labels) == 0 {
			want = api.ErrCount
		} else if len(closure(labels)) != len(labels) {
			want = api.ErrClosed
		}
		same(t, fmt.Sprint("Check ", labels), label.Check(labels), want)
	}
}

// subset is the labels whose bits in mask are 1.
func subset(labels []api.Label, mask int) []api.Label {
	var chosen []api.Label
	for i, l := range labels {
		if mask>>i&1 == 1 {
			chosen = append(chosen, l)
		}
	}
	return chosen
}

// wantClose is the document's words for Close.
func wantClose(labels []api.Label) ([]api.Label, api.Errno) {
	all := closure(labels)
	if len(all) == 0 || len(all) > api.MaxLabels {
		return nil, api.ErrCount
	}
	return slices.Sorted(maps.Keys(all)), api.OK
}

func checkClose(t *testing.T, what string, labels, want []api.Label, wantErr api.Errno) {
	t.Helper()
	got, err := label.Close(labels)
	same(t, "Close of "+what, got, want)
	same(t, "the error of Close of "+what, err, wantErr)
}

// P1.8
func TestClose(t *testing.T) {
	square := set(0, 1, 2, 3)
	on := chainOf(17)
	for _, x := range []struct {
		what   string
		labels []api.Label
		want   []api.Label
		err    api.Errno
	}{
		{"two", set(1, 2), square, api.OK},
		{"a label twice", set(3, 6, 3), set(2, 3, 6, 7), api.OK},
		{"none", nil, nil, api.ErrCount},
		{"an empty list", set(), nil, api.ErrCount},
		{"one", set(9), set(9), api.OK},
		{"one label, often", slices.Repeat(set(9), 1000), set(9), api.OK},
		{"three things", set(1, 2, 4), cube(3), api.OK},
		{"four things: just 16", set(1, 2, 4, 8), cube(4), api.OK},
		{"five things", set(1, 2, 4, 8, 16), nil, api.ErrCount},
		{"a chain of 16", chainOf(16), chainOf(16), api.OK},
		{"a chain of 17", chainOf(17), nil, api.ErrCount},
		{"a square under a chain: just 16", append(set(1, 2), on[3:15]...), append(set(0, 1, 2, 3), on[3:15]...), api.OK},
		{"a square under a chain: just 17", append(set(1, 2), on[3:16]...), nil, api.ErrCount},
		{"the things 0 and 63", set(top, 1), set(0, 1, top, top|1), api.OK},
		{"17 labels, one of them twice", append(chainOf(16), 0), chainOf(16), api.OK},
	} {
		checkClose(t, x.what, x.labels, x.want, x.err)
	}
	for _, labels := range lists() {
		want, err := wantClose(labels)
		checkClose(t, fmt.Sprint(labels), labels, want, err)
	}
}

// P1.10: a lattice, which is its own closure.
func TestCloseIsALattice(t *testing.T) {
	for _, labels := range lists() {
		got, err := label.Close(labels)
		if err != api.OK {
			continue
		}
		same(t, fmt.Sprint("Check of the closure of ", labels), label.Check(got), api.OK)
		checkClose(t, fmt.Sprint("the closure of ", labels), got, got, api.OK)
	}
}

// P1.10: each lattice that has all of the labels has all of Close's.
func TestCloseIsLeast(t *testing.T) {
	for mask := 1; mask < 1<<8; mask++ {
		got, err := label.Close(subset(cube(3), mask))
		same(t, fmt.Sprint("the error of Close of the set ", mask), err, api.OK)
		for more := range 1 << 8 {
			lattice := subset(cube(3), mask|more)
			if label.Check(lattice) != api.OK {
				continue
			}
			for _, l := range got {
				if !slices.Contains(lattice, l) {
					t.Fatalf("Close of the set %d has %d, the lattice %v has not", mask, l, lattice)
				}
			}
		}
	}
}

// P1.10: neither the order of the labels nor how often they stand there plays a part.
func TestCloseInAnyOrder(t *testing.T) {
	source := rand.New(rand.NewSource(2))
	for _, labels := range append(lists(), set(1, 2, 4, 8), set(1, 2, 4, 8, 16), chainOf(17)) {
		want, wantErr := label.Close(labels)
		for range 10 {
			mixed := slices.Repeat(labels, 1+source.Intn(4))
			source.Shuffle(len(mixed), func(i, j int) { mixed[i], mixed[j] = mixed[j], mixed[i] })
			checkClose(t, fmt.Sprint(mixed), mixed, want, wantErr)
		}
	}
}
