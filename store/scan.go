package store

import (
	"bytes"
	"cmp"
	"iter"
	"slices"

	"cloister/api"
)

// Scan goes through the pairs at a stamp, by key.
func (s *Store) Scan(from, to string, stamp int) iter.Seq[api.Pair] {
	return func(yield func(api.Pair) bool) {
		for _, p := range s.found(from, to, stamp) {
			if !yield(api.Pair{Key: p.Key, Value: bytes.Clone(p.Value)}) {
				return
			}
		}
	}
}

// found is the pairs at a stamp, by key, with the values that the store itself has. It is a list of its own, so that the store may go on.
func (s *Store) found(from, to string, stamp int) []api.Pair {
	var pairs []api.Pair
	for key, c := range s.all() {
		if key < from || to != "" && key >= to {
			continue
		}
		if x, is := c.At(stamp); is && !x.Dead {
			pairs = append(pairs, api.Pair{Key: key, Value: x.Value})
		}
	}
	slices.SortFunc(pairs, func(a, b api.Pair) int { return cmp.Compare(a.Key, b.Key) })
	return pairs
}
