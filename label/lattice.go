package label

import (
	"maps"
	"slices"

	"cloister/api"
)

// Check tells whether labels are a lattice.
func Check(labels []api.Label) api.Errno {
	switch {
	case len(labels) < 1 || len(labels) > api.MaxLabels:
		return api.ErrCount
	case !rise(labels):
		return api.ErrRising
	case !closed(labels):
		return api.ErrClosed
	}
	return api.OK
}

// rise tells whether each label is above the one ahead of it as a number.
func rise(labels []api.Label) bool {
	for i := 1; i < len(labels); i++ {
		if labels[i] <= labels[i-1] {
			return false
		}
	}
	return true
}

// closed tells whether the union and the intersection of any two labels are among them.
func closed(labels []api.Label) bool {
	for i, a := range labels {
		for _, b := range labels[:i] {
			if !slices.Contains(labels, Join(a, b)) || !slices.Contains(labels, Meet(a, b)) {
				return false
			}
		}
	}
	return true
}

// Close is the least lattice that has some labels.
func Close(labels []api.Label) ([]api.Label, api.Errno) {
	there := map[api.Label]struct{}{}
	for _, l := range labels {
		if !grow(there, l) {
			return nil, api.ErrCount
		}
	}
	if len(there) == 0 {
		return nil, api.ErrCount
	}
	return slices.Sorted(maps.Keys(there)), api.OK
}

// grow takes a label, and all that it calls for, into a closed set; false, if that has no room for them. (What is in the set is in the closure of all labels too: so nothing is refused too early.)
func grow(there map[api.Label]struct{}, l api.Label) bool {
	wanted := []api.Label{l}
	for len(wanted) > 0 {
		next := wanted[len(wanted)-1]
		wanted = wanted[:len(wanted)-1]
		if _, ok := there[next]; ok {
			continue
		}
		if len(there) == api.MaxLabels {
			return false
		}
		// The order of the map decides in which order labels come in, not which ones do.
		for other := range there {
			wanted = append(wanted, Join(next, other), Meet(next, other))
		}
		there[next] = struct{}{}
	}
	return true
}
