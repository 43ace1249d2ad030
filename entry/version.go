package entry

import (
	"bytes"

	"cloister/api"
)

// OfWrite is the entry of a write.
func OfWrite(v api.Version) api.Entry {
	if v.Dead {
		return api.Entry{Kind: api.EntryDelete, Key: v.Key}
	}
	return api.Entry{Kind: api.EntryPut, Key: v.Key, Value: bytes.Clone(v.Value)}
}

// OfVersion is the entry of a version.
func OfVersion(v api.Version) api.Entry {
	return api.Entry{Kind: api.EntryVersion, Key: v.Key, Stamp: v.Stamp, Dead: v.Dead, Value: bytes.Clone(v.Value)}
}

// Version is what an entry says of a key.
func Version(e api.Entry) (api.Version, bool) {
	switch e.Kind {
	case api.EntryPut:
		return api.Version{Key: e.Key, Value: bytes.Clone(e.Value)}, true
	case api.EntryDelete:
		return api.Version{Key: e.Key, Dead: true}, true
	case api.EntryVersion:
		return api.Version{Key: e.Key, Stamp: e.Stamp, Value: bytes.Clone(e.Value), Dead: e.Dead}, true
	}
	return api.Version{}, false
}
