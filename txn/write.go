package txn

import (
	"cloister/api"
	"cloister/quota"
)

// Put writes a key.
func (t *Txn) Put(place int, key string, value []byte, a *quota.Account) api.Errno {
	if code := t.charge(place, key, value, a); code != api.OK {
		return code
	}
	return t.writes.Put(key, value)
}

// Delete writes that a key is gone.
func (t *Txn) Delete(place int, key string, a *quota.Account) api.Errno {
	if code := t.charge(place, key, nil, a); code != api.OK {
		return code
	}
	return t.writes.Delete(key)
}

// charge is why a key may not be written; if it may be, the account is charged with it, in the place of what was written of the key.
func (t *Txn) charge(place int, key string, value []byte, a *quota.Account) api.Errno {
	switch {
	case t == nil || a == nil:
		return api.ErrNil
	case t.ended:
		return api.ErrEnded
	case !t.isPlace(place):
		return api.ErrArg
	case keyFault(key) != api.OK:
		return keyFault(key)
	case len(value) > api.MaxValue:
		return api.ErrValue
	case place != t.place:
		return api.ErrLevel
	}
	return a.Charge(t.writes.Weight(key), len(key)+len(value))
}
