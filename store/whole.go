package store

import (
	"bytes"
	"maps"
	"slices"

	"cloister/api"
)

// Vacuum takes versions away that nobody at or above a stamp sees.
func (s *Store) Vacuum(horizon int) int {
	gone := 0
	for _, c := range s.all() {
		gone += c.Prune(horizon)
	}
	return gone
}

// Live is how many bytes the newest pairs have.
func (s *Store) Live() int {
	live := 0
	for key, c := range s.all() {
		if x, is := c.Last(); is && !x.Dead {
			live += len(key) + len(x.Value)
		}
	}
	return live
}

// Len is how many keys and versions there are.
func (s *Store) Len() (int, int) {
	versions := 0
	for _, c := range s.all() {
		versions += c.Len()
	}
	return len(s.all()), versions
}

// Versions tells all, by key and stamp. A chain is told from its end on, so the keys are gone through from theirs, and the whole is turned.
func (s *Store) Versions() []api.Version {
	var all []api.Version
	for _, key := range slices.Backward(slices.Sorted(maps.Keys(s.all()))) {
		for x := range s.of(key).All() {
			all = append(all, api.Version{Key: key, Stamp: x.Stamp, Value: bytes.Clone(x.Value), Dead: x.Dead})
		}
	}
	slices.Reverse(all)
	return all
}
