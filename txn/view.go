package txn

import (
	"cloister/api"
	"cloister/quota"
)

// View is a transaction's own label as it sees it: the transaction's calls, and what it hands in to them.
type View struct {
	place   int
	own     Source
	account *quota.Account
	get     func(place int, key string, from Source) ([]byte, bool, api.Errno)
	scan    func(place int, from, to string, limit int, source Source) ([]api.Pair, bool, api.Errno)
	put     func(place int, key string, value []byte, a *quota.Account) api.Errno
	remove  func(place int, key string, a *quota.Account) api.Errno
}

// View is that of a transaction.
func (t *Txn) View(own Source, a *quota.Account) *View {
	if t == nil || own == nil || a == nil {
		return nil
	}
	return &View{place: t.place, own: own, account: a, get: t.Get, scan: t.Scan, put: t.Put, remove: t.Delete}
}

// isThere tells whether it has the calls of a transaction: the zero view has none.
func (v *View) isThere() bool { return v != nil && v.own != nil }

// Get reads a key.
func (v *View) Get(key string) ([]byte, bool, api.Errno) {
	if !v.isThere() {
		return nil, false, api.ErrNil
	}
	return v.get(v.place, key, v.own)
}

// Scan reads keys.
func (v *View) Scan(from, to string, limit int) ([]api.Pair, bool, api.Errno) {
	if !v.isThere() {
		return nil, false, api.ErrNil
	}
	return v.scan(v.place, from, to, limit, v.own)
}

// Put writes a key.
func (v *View) Put(key string, value []byte) api.Errno {
	if !v.isThere() {
		return api.ErrNil
	}
	return v.put(v.place, key, value, v.account)
}

// Delete writes that a key is gone.
func (v *View) Delete(key string) api.Errno {
	if !v.isThere() {
		return api.ErrNil
	}
	return v.remove(v.place, key, v.account)
}
