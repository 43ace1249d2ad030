package entry_test

import (
	"fmt"
	"math/rand"
	"testing"

	"cloister/api"
	"cloister/entry"
)

// many is entries that may be, of every kind and by chance.
func many(seed int64) []fact {
	r := rand.New(rand.NewSource(seed))
	all := append(good(), few()...)
	for range 3000 {
		all = append(all, factBy(r))
	}
	return all
}

// P10.6: Decode of what Encode answers is the entry.
func TestThereAndBack(t *testing.T) {
	for _, f := range many(106) {
		b, code := entry.Encode(f.entryOf())
		same(t, "Encode", code, api.OK)
		back, code := entry.Decode(b)
		same(t, "Decode", code, api.OK)
		same(t, "there and back", factOf(back), f)
		same(t, "Check of what came back", entry.Check(back), api.OK)
	}
}

// P10.6: Encode of what Decode answers is the bytes, of all bytes that are taken.
func TestBackAndThere(t *testing.T) {
	r := rand.New(rand.NewSource(1060))
	count := 0
	for range 30000 {
		b := paperBytes(factBy(r))
		if r.Intn(2) == 0 {
			b = turned(b, r.Intn(min(len(b), 12)), byte(1<<r.Intn(8)))
		}
		e, code := entry.Decode([]byte(b))
		if code != api.OK {
			continue
		}
		count++
		again, code := entry.Encode(e)
		same(t, "Encode", code, api.OK)
		same(t, "back and there", string(again), b)
	}
	if count < 10000 {
		t.Errorf("only %d entries were taken", count)
	}
}

// P10.6: no beginning of an entry's bytes but all of them is an entry's, and with bytes behind them they are none's.
func TestNoOtherLength(t *testing.T) {
	for _, f := range append(few(), put(great(255), great(300)), version(great(128), 1<<62, great(64)), dead(great(255), 1<<61), put("k", great(4096))) {
		b, _ := entry.Encode(f.entryOf())
		for n := range len(b) {
			_, code := entry.Decode(b[:n:n])
			same(t, fmt.Sprintf("the first %d of %d bytes of kind %d", n, len(b), f.kind), code, api.ErrEntry)
			_, code = entry.Decode(b[:n])
			same(t, fmt.Sprintf("the first %d of %d bytes of kind %d, the others in their spare room", n, len(b), f.kind), code, api.ErrEntry)
		}
		for _, g := range few() {
			_, code := entry.Decode([]byte(string(b) + paperBytes(g)))
			same(t, fmt.Sprintf("kind %d with kind %d behind", f.kind, g.kind), code, api.ErrEntry)
		}
		for x := range 256 {
			_, code := entry.Decode([]byte(string(b) + string([]byte{byte(x)})))
			same(t, fmt.Sprintf("kind %d with the byte %d behind", f.kind, x), code, api.ErrEntry)
		}
	}
}

// P10.7: Version(OfVersion(v)) is v, and Version(OfWrite(v)) is v without its stamp, and without a dead one's value.
func TestVersionsThereAndBack(t *testing.T) {
	r := rand.New(rand.NewSource(107))
	all := versions()
	for range 3000 {
		all = append(all, told{by(r, r.Intn(300)), int(r.Uint64()), by(r, r.Intn(300)), r.Intn(2) == 0})
	}
	for _, v := range all {
		back, is := entry.Version(entry.OfVersion(v.versionOf()))
		same(t, "OfVersion's version is one", is, true)
		same(t, "OfVersion's version", toldOf(back), v)
		want := told{key: v.key, value: v.value}
		if v.dead {
			want = told{key: v.key, dead: true}
		}
		back, is = entry.Version(entry.OfWrite(v.versionOf()))
		same(t, "OfWrite's version is one", is, true)
		same(t, "OfWrite's version", toldOf(back), want)
	}
}

// P10.4 to P10.7 together: what is made of a version that may be goes through bytes and comes back.
func TestVersionsThroughBytes(t *testing.T) {
	for _, v := range versions() {
		for _, e := range []api.Entry{entry.OfVersion(v.versionOf()), entry.OfWrite(v.versionOf())} {
			f := factOf(e)
			sameCheck(t, "of a version", f)
			b, code := entry.Encode(e)
			if code != api.OK {
				continue
			}
			back, _ := entry.Decode(b)
			got, is := entry.Version(back)
			want, _ := entry.Version(e)
			same(t, "is a version", is, true)
			same(t, "through bytes", toldOf(got), toldOf(want))
		}
	}
}
