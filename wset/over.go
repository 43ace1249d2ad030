package wset

import (
	"iter"
	"maps"
	"slices"

	"cloister/api"
)

// Over goes through pairs with the writes laid over them. Each walk has what was written when it began for itself, since the set may go on in the midst of it.
func (s *Set) Over(from, to string, under iter.Seq[api.Pair]) iter.Seq[api.Pair] {
	return func(yield func(api.Pair) bool) {
		written, puts := maps.Clone(s.all()), s.puts(from, to)
		for p := range listened(under) {
			for len(puts) > 0 && puts[0].Key <= p.Key {
				if !yield(pairOf(puts[0])) {
					return
				}
				puts = puts[1:]
			}
			if _, is := written[p.Key]; !is && !yield(p) {
				return
			}
		}
		for _, v := range puts {
			if !yield(pairOf(v)) {
				return
			}
		}
	}
}

// puts is the puts of a range, by key, in a list of its own, with the values that the set itself has.
func (s *Set) puts(from, to string) []api.Version {
	var puts []api.Version
	for key, v := range s.all() {
		if !v.Dead && key >= from && (to == "" || key < to) {
			puts = append(puts, v)
		}
	}
	slices.SortFunc(puts, byKey)
	return puts
}

// pairOf is a put as a pair, with a value of its own.
func pairOf(v api.Version) api.Pair {
	v = anew(v)
	return api.Pair{Key: v.Key, Value: v.Value}
}

// listened goes through what another walk tells; through nothing, if that is not there. One that goes on when it was left is not listened to any more: a range over it would panic.
func listened(under iter.Seq[api.Pair]) iter.Seq[api.Pair] {
	return func(yield func(api.Pair) bool) {
		if under == nil {
			return
		}
		left := false
		under(func(p api.Pair) bool {
			left = left || !yield(p)
			return !left
		})
	}
}
