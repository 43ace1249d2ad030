package txn

import (
	"bytes"
	"iter"

	"cloister/api"
	"cloister/wset"
)

// Source is a label as a transaction reads it.
type Source interface {
	Get(key string, stamp int) ([]byte, bool)
	Scan(from, to string, stamp int) iter.Seq[api.Pair]
	Horizon() int
}

// Get reads a key. What it wrote itself it finds whatever became of the source's past.
func (t *Txn) Get(place int, key string, from Source) ([]byte, bool, api.Errno) {
	if code := t.mayRead(place, from, keyFault(key)); code != api.OK {
		return nil, false, code
	}
	if v, is := t.laidOver(place).Get(key); is {
		return v.Value, !v.Dead, api.OK
	}
	if t.isOld(place, from) {
		return nil, false, api.ErrOld
	}
	value, is := from.Get(key, t.snapshot[place])
	if !is {
		return nil, false, api.OK
	}
	return bytes.Clone(value), true, api.OK
}

// Scan reads keys: so many pairs at most, and whether there are others.
func (t *Txn) Scan(place int, from, to string, limit int, source Source) ([]api.Pair, bool, api.Errno) {
	if code := t.mayRead(place, source, scanFault(from, to, limit)); code != api.OK {
		return nil, false, code
	}
	if t.isOld(place, source) {
		return nil, false, api.ErrOld
	}
	under := source.Scan(from, to, t.snapshot[place])
	pairs, more := first(limit, t.laidOver(place).Over(from, to, under))
	return pairs, more, api.OK
}

// mayRead is why a place may not be read, as far as the source need not be asked for that. What is wrong with a call's other arguments, if anything, has its rank among the reasons.
func (t *Txn) mayRead(place int, from Source, fault api.Errno) api.Errno {
	switch {
	case t == nil || from == nil:
		return api.ErrNil
	case t.ended:
		return api.ErrEnded
	case !t.isPlace(place):
		return api.ErrArg
	case fault != api.OK:
		return fault
	case t.snapshot[place] < 0:
		return api.ErrUp
	}
	return api.OK
}

// keyFault is what is wrong with a key.
func keyFault(key string) api.Errno {
	if len(key) < 1 || len(key) > api.MaxKey {
		return api.ErrKey
	}
	return api.OK
}

// scanFault is what is wrong with the range and the limit of a Scan.
func scanFault(from, to string, limit int) api.Errno {
	switch {
	case limit < 1 || limit > api.MaxScan:
		return api.ErrArg
	case len(from) > api.MaxKey || len(to) > api.MaxKey:
		return api.ErrKey
	}
	return api.OK
}

// isOld tells whether a source has given up what the snapshot sees of its place.
func (t *Txn) isOld(place int, from Source) bool { return t.snapshot[place] < from.Horizon() }

// laidOver is the writes that are seen at a place: none but at the own one.
func (t *Txn) laidOver(place int) *wset.Set {
	if place != t.place {
		return nil
	}
	return t.writes
}

// first is the first pairs of a walk, so many at most, with values of their own, and whether there are others. Each value is copied as it is told: who tells it may write over it when the walk goes on.
func first(limit int, all iter.Seq[api.Pair]) (pairs []api.Pair, more bool) {
	for p := range all {
		if len(pairs) == limit {
			return pairs, true
		}
		pairs = append(pairs, api.Pair{Key: p.Key, Value: bytes.Clone(p.Value)})
	}
	return pairs, false
}
