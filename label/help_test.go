package label_test

import (
	"math/rand"
	"reflect"
	"testing"

	"cloister/api"
	"cloister/label"
)

const top api.Label = 1 << 63 // the set of the thing 63 alone

func set(labels ...api.Label) []api.Label { return labels }

// same holds an answer against what is wanted; nil and empty lists are the same.
func same(t *testing.T, what string, got, want any) {
	t.Helper()
	g, w := reflect.ValueOf(got), reflect.ValueOf(want)
	if g.Kind() == reflect.Slice && w.Kind() == reflect.Slice && g.Len() == 0 && w.Len() == 0 {
		return
	}
	if !reflect.DeepEqual(got, want) {
		t.Errorf("%s: got %v, want %v", what, got, want)
	}
}

// has tells whether the thing i is in l.
func has(l api.Label, i int) bool { return l>>i&1 == 1 }

// atOrBelow is the document's words, thing by thing.
func atOrBelow(a, b api.Label) bool {
	for i := range 64 {
		if has(a, i) && !has(b, i) {
			return false
		}
	}
	return true
}

func below(a, b api.Label) bool { return a != b && atOrBelow(a, b) }

// chainOf is n labels, each below the next one.
func chainOf(n int) []api.Label {
	var labels []api.Label
	for i := range n {
		labels = append(labels, 1<<i-1)
	}
	return labels
}

// cube is all sets of the first n things, rising.
func cube(n int) []api.Label {
	var labels []api.Label
	for l := range api.Label(1) << n {
		labels = append(labels, l)
	}
	return labels
}

// samples is labels of every sort, with the things 0 and 63 in and out.
func samples() []api.Label {
	return set(0, 1, 2, 3, 5, 6, 7, 1<<32, 1<<32|1, top, top|1, top|2, top>>1, top|top>>1, top-1, ^api.Label(0)-1, ^api.Label(0))
}

// lists is lists of every sort: none, unordered, with labels twice, random.
func lists() [][]api.Label {
	all := [][]api.Label{nil, {}, {0}, {5}, {top}, {1, 1}, {4, 2, 4}, {0, 1, 2, 3}, {3, 2, 1, 0}, {0, 1, 3, 7, 3}, {7, 1, 1, 3}, {7, 7, 0, 0, 7},
		{1, 2, 4, 8}, {0, 1, top, top | 1}, {top | 1, top, 1, 0, top}, samples(), cube(4), chainOf(20)}
	source := rand.New(rand.NewSource(1))
	for range 200 {
		things := 1 + source.Intn(6)
		labels := make([]api.Label, source.Intn(12))
		for i := range labels {
			labels[i] = api.Label(source.Intn(1 << things))
			if source.Intn(8) == 0 {
				labels[i] |= top
			}
		}
		all = append(all, labels)
	}
	return all
}

// closure is the least closed set that has the labels, by going round until nothing is new; it leaves off at 65.
func closure(labels []api.Label) map[api.Label]bool {
	there := map[api.Label]bool{}
	for _, l := range labels {
		there[l] = true
	}
	for before := -1; before != len(there) && len(there) <= 64; {
		before = len(there)
		var now []api.Label
		for l := range there {
			now = append(now, l)
		}
		for _, a := range now {
			for _, b := range now {
				there[a|b], there[a&b] = true, true
			}
		}
	}
	return there
}

// config is one that may be, with so many labels.
func config(n int) api.Config {
	c := api.Config{Labels: chainOf(n), Accounts: make([]api.Account, n)}
	if label.Check(c.Labels) != api.OK {
		panic("no lattice")
	}
	return c
}
