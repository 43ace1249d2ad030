package entry_test

import (
	"bytes"
	"fmt"
	"math/rand"
	"runtime"
	"strings"
	"sync"
	"testing"
	"weak"

	"cloister/api"
	"cloister/entry"
)

// every is entries that may be and such that may not.
func every() []fact { return append(append(few(), wrong()...), put("k", great(4096))) }

// sameWhole holds that bytes that were handed in, spare room too, are what they were.
func sameWhole(t *testing.T, what string, whole, before []byte) {
	t.Helper()
	if !bytes.Equal(whole, before) {
		t.Errorf("%s: what was handed in has changed: %.300q, was %.300q", what, whole, before)
	}
}

// Memory: an entry that is handed in is not changed, spare room included, not even by writing over the answers.
func TestEntryNotChanged(t *testing.T) {
	for _, f := range every() {
		e := f.entryOf()
		given, whole := spare(f.value)
		e.Value = given
		before := bytes.Clone(whole)
		entry.Check(e)
		sameWhole(t, "Check", whole, before)
		b, _ := entry.Encode(e)
		scribble(b)
		_ = append(b, "appended"...)
		sameWhole(t, "Encode", whole, before)
		v, _ := entry.Version(e)
		scribble(v.Value)
		_ = append(v.Value, "appended"...)
		sameWhole(t, "Version", whole, before)
		same(t, "the entry", factOf(e), f)
	}
}

// Memory: nor is a version.
func TestVersionNotChanged(t *testing.T) {
	for _, v := range versions() {
		given, whole := spare(v.value)
		before := bytes.Clone(whole)
		for _, of := range []func(api.Version) api.Entry{entry.OfWrite, entry.OfVersion} {
			e := of(api.Version{Key: v.key, Stamp: v.stamp, Value: given, Dead: v.dead})
			scribble(e.Value)
			_ = append(e.Value, "appended"...)
			sameWhole(t, "a version", whole, before)
		}
	}
}

// Memory: nor are bytes.
func TestBytesNotChanged(t *testing.T) {
	for _, f := range every() {
		given, whole := spare(paperBytes(f))
		before := bytes.Clone(whole)
		e, _ := entry.Decode(given)
		scribble(e.Value)
		_ = append(e.Value, "appended"...)
		sameWhole(t, "Decode", whole, before)
	}
}

// Memory: an answer does not change with what was handed in.
func TestNothingShared(t *testing.T) {
	for _, f := range append(few(), put("k", great(4096)), version("key", 3, great(4000))) {
		given, whole := spare(f.value)
		e := f.entryOf()
		e.Value = given
		b, _ := entry.Encode(e)
		v, _ := entry.Version(e)
		written, versioned := entry.OfWrite(api.Version{Key: f.key, Value: given}), entry.OfVersion(api.Version{Key: f.key, Value: given})
		want := toldOf(v)
		scribble(whole)
		same(t, "Encode", string(b), paperBytes(f))
		same(t, "Version", toldOf(v), want)
		same(t, "OfWrite", factOf(written), put(f.key, f.value))
		same(t, "OfVersion", factOf(versioned), version(f.key, 0, f.value))
		back, code := entry.Decode(b)
		same(t, "Decode", code, api.OK)
		scribble(b)
		same(t, "Decode", factOf(back), f)
	}
}

// Memory: two answers of the same call share nothing, spare room too.
func TestAnswersAreNew(t *testing.T) {
	for _, f := range few() {
		e, b := f.entryOf(), []byte(paperBytes(f))
		one, _ := entry.Encode(e)
		two, _ := entry.Encode(e)
		scribble(one)
		same(t, "another Encode", string(two), paperBytes(f))
		first, _ := entry.Decode(b)
		second, _ := entry.Decode(b)
		scribble(first.Value)
		same(t, "another Decode", factOf(second), f)
		v, _ := entry.Version(e)
		w, _ := entry.Version(e)
		want := toldOf(w)
		scribble(v.Value)
		same(t, "another Version", toldOf(w), want)
		for _, of := range []func(api.Version) api.Entry{entry.OfWrite, entry.OfVersion} {
			first, second = of(w), of(w)
			wanted := factOf(second)
			scribble(first.Value)
			same(t, "another entry of a version", factOf(second), wanted)
			same(t, "the version", toldOf(w), want)
		}
	}
}

// Memory: what is handed in is not held on to.
func TestHandedInIsLetGo(t *testing.T) {
	big := make([]byte, 1<<20)
	b := append(big[:0], paperBytes(put("k", "ab"))...)
	watch := weak.Make(&big[0])
	e, code := entry.Decode(b)
	same(t, "Decode", code, api.OK)
	v := api.Version{Key: "k", Value: big[4:6]}
	written, versioned := entry.OfWrite(v), entry.OfVersion(v)
	again, _ := entry.Version(api.Entry{Kind: api.EntryPut, Key: "k", Value: big[4:6]})
	whole, _ := entry.Encode(api.Entry{Kind: api.EntryPut, Key: "k", Value: big[4:6]})
	runtime.GC()
	if watch.Value() != nil {
		t.Error("what was handed in is held on to")
	}
	same(t, "Decode", factOf(e), put("k", "ab"))
	same(t, "OfWrite", factOf(written), put("k", "ab"))
	same(t, "OfVersion", factOf(versioned), version("k", 0, "ab"))
	same(t, "Version", toldOf(again), told{key: "k", value: "ab"})
	same(t, "Encode", string(whole), "\x01\x02k\x04ab")
}

// Memory: calls beside one another, of one argument, from goroutines.
func TestBesideOneAnother(t *testing.T) {
	f := version("key", 9, great(100))
	e, b := f.entryOf(), []byte(paperBytes(f))
	wrongs := make([]int, 8)
	var group sync.WaitGroup
	for i := range wrongs {
		group.Go(func() {
			for range 200 {
				got, _ := entry.Encode(e)
				back, code := entry.Decode(b)
				v, _ := entry.Version(e)
				if string(got) != string(b) || code != api.OK || factOf(back) != f || factOf(entry.OfVersion(v)) != f {
					wrongs[i]++
				}
				scribble(got)
				scribble(back.Value)
				scribble(v.Value)
			}
		})
	}
	group.Wait()
	for _, n := range wrongs {
		same(t, "wrong answers", n, 0)
	}
}

// W0: bytes by chance that begin with a Kind, and long ones; none panics, and all tell what they must.
func TestAllBytes(t *testing.T) {
	r := rand.New(rand.NewSource(10))
	for range 50000 {
		b := []byte(by(r, r.Intn(24)))
		for i := range b {
			if r.Intn(2) == 0 {
				b[i] = byte(r.Intn(8))
			}
		}
		sameDecode(t, "bytes by chance", string(b))
	}
	for kind := range 9 {
		for _, x := range []string{"\x00", "\x01", "\x02", "\x7f", "\x80", "\xff"} {
			sameDecode(t, "long", string([]byte{byte(kind)})+strings.Repeat(x, 1<<20))
		}
	}
}

// The limits of the chapter, and that an entry is well within a frame's payload.
func TestLimits(t *testing.T) {
	same(t, "MaxKey", api.MaxKey, 255)
	same(t, "MaxValue", api.MaxValue, 4096)
	same(t, "MaxStamp", api.MaxStamp, 1<<62)
	key, value := great(api.MaxKey), great(api.MaxValue)
	for _, f := range []fact{put(key, value), gone(key), version(key, api.MaxStamp, value), dead(key, api.MaxStamp), at(3, api.MaxStamp, 1<<31-1), at(4, api.MaxStamp, 1<<31-1), at(6, api.MaxStamp, 1<<31-1)} {
		b, code := entry.Encode(f.entryOf())
		same(t, "at the limits", code, api.OK)
		if len(b) > 4377 || len(b) > api.MaxPayload {
			t.Errorf("kind %d: %d bytes", f.kind, len(b))
		}
		back, code := entry.Decode(b)
		same(t, "at the limits, back", code, api.OK)
		same(t, "at the limits, back", factOf(back), f)
	}
	for _, f := range []fact{put(key+"k", value), put(key, value+"v"), gone(key + "k"), version(key+"k", 1, value), version(key, 1, value+"v"), version(key, api.MaxStamp+1, value), at(3, api.MaxStamp+1, 0), at(3, 0, 1<<31)} {
		same(t, "one more", entry.Check(f.entryOf()), api.ErrEntry)
	}
}

// The chapter's examples.
func TestExamples(t *testing.T) {
	for _, x := range []struct {
		f    fact
		want string
	}{
		{put("k", "ab"), "01 02 6b 04 61 62"}, {gone("k"), "02 02 6b"}, {at(3, 3, 2), "03 06 04"}, {at(4, 0, 0), "04 00 00"}, {at(6, 64, 1), "06 80 01 02"},
		{version("k", 5, "x"), "05 02 6b 0a 00 02 78"}, {dead("k", 5), "05 02 6b 0a 01 00"},
	} {
		b, code := entry.Encode(x.f.entryOf())
		same(t, "Encode", code, api.OK)
		same(t, "Encode", fmt.Sprintf("% x", b), x.want)
	}
	for _, f := range []fact{{kind: 0}, {kind: 7}, put("", "a"), {kind: 1, key: "k", stamp: 1}, {kind: 2, key: "k", value: "v"}, {kind: 5, key: "k", stamp: 5, value: "x", dead: true}, at(3, -1, 2), at(3, 1, 1<<31)} {
		b, code := entry.Encode(f.entryOf())
		same(t, "Encode", code, api.ErrEntry)
		same(t, "Encode", len(b), 0)
	}
	taken(t, "\x01\x02\x6b\x04\x61\x62", put("k", "ab"))
	for _, b := range []string{"", "\x02\x02", "\x02\x02\x6b\x00", "\x02\x82\x00\x6b", "\x05\x02\x6b\x0a\x02\x00", "\x02\x00"} {
		refused(t, "an example", b)
	}
	sameVersion(t, put("k", "ab"), told{"k", 0, "ab", false}, true)
	sameVersion(t, gone("k"), told{"k", 0, "", true}, true)
	sameVersion(t, at(3, 3, 2), told{}, false)
}
