package frame_test

import (
	"bytes"
	"math/rand"
	"runtime"
	"testing"
	"weak"

	"cloister/api"
	"cloister/frame"
)

// each is bytes of every kind: rows of frames, faults, payloads above the limit.
func each() []string {
	all := append(some(), tails()...)
	return append(all, row("a"), row("a", "", "ccc"), row("a", "b")+"\xc5", great(65536), great(65537), paperFrame(great(65536)))
}

// P9.10: what is handed in is not changed, spare room included.
func TestNothingChanged(t *testing.T) {
	for _, text := range each() {
		given, whole := spare(text)
		before := bytes.Clone(whole)
		b, _ := frame.Make(given)
		scribble(b)
		same(t, "handed to Make", string(whole), string(before))
		p, _, _ := frame.Read(given)
		scribble(p)
		same(t, "handed to Read", string(whole), string(before))
		for _, p := range frame.All(given) {
			scribble(p)
		}
		same(t, "handed to All", string(whole), string(before))
		frame.Count(given)
		same(t, "handed to Count", string(whole), string(before))
	}
}

// P9.10: an answer does not change with what was handed in.
func TestNothingShared(t *testing.T) {
	for _, text := range each() {
		given, whole := spare(text)
		b, _ := frame.Make(given)
		before := string(b)
		p, _, _ := frame.Read(given)
		payload := string(p)
		var all [][]byte
		var payloads []string
		for _, p := range frame.All(given) {
			all, payloads = append(all, p), append(payloads, string(p))
		}
		scribble(whole)
		same(t, "of Make", string(b), before)
		same(t, "of Read", string(p), payload)
		for i := range all {
			same(t, "of All", string(all[i]), payloads[i])
		}
	}
}

// P9.10: two answers of the same call share nothing.
func TestAnswersAreNew(t *testing.T) {
	for _, text := range each() {
		given := []byte(text)
		one, _ := frame.Make(given)
		two, code := frame.Make(given)
		scribble(one)
		if code == api.OK {
			same(t, "another Make", string(two), paperFrame(text))
		}
		one, _, _ = frame.Read(given)
		two, _, code = frame.Read(given)
		scribble(one)
		if code == api.OK {
			same(t, "another Read", string(two), paperRead(text).payload)
		}
	}
}

// P9.10: payloads of one walk, of another one over the same answer, and of Read, share nothing, spare room too.
func TestPayloadsAreNew(t *testing.T) {
	payloads := []string{"a", "", "ccc", "dd", great(33)}
	want := stepsOf(payloads...)
	all := frame.All([]byte(row(payloads...)))
	var kept [][]byte
	for _, p := range all {
		kept = append(kept, p)
	}
	for _, p := range all {
		scribble(p)
		_ = append(p, "appended"...)
	}
	for i, p := range kept {
		same(t, "an earlier walk's", string(p), payloads[i])
	}
	for i := range kept {
		scribble(kept[i])
		for j := i + 1; j < len(kept); j++ {
			same(t, "another one of the same walk", string(kept[j]), payloads[j])
		}
	}
	sameSteps(t, "a later walk", walked(t, all), want)
}

// P9.10: what is handed in is not held on to.
func TestHandedInIsLetGo(t *testing.T) {
	big := make([]byte, 1<<20)
	copy(big, row("a", "b"))
	watch := weak.Make(&big[0])
	b, _ := frame.Make(big[:9])
	p, _, code := frame.Read(big[:20])
	same(t, "Read", code, api.OK)
	all := frame.All(big[:20])
	none := frame.All(big[:0])
	frame.Count(big[:20])
	runtime.GC()
	if watch.Value() != nil {
		t.Error("what was handed in is held on to")
	}
	sameSteps(t, "All", walked(t, all), stepsOf("a", "b"))
	sameSteps(t, "All of nothing", walked(t, none), nil)
	same(t, "Read", string(p), "a")
	same(t, "Make", len(b), 18)
}

// A payload does not hold on to the bytes that it was read of.
func TestPayloadIsItsOwn(t *testing.T) {
	b := []byte(paperFrame("a") + great(1<<20))
	watch := weak.Make(&b[0])
	p, _, _ := frame.Read(b)
	runtime.GC()
	same(t, "held on to", watch.Value() != nil, false)
	same(t, "payload", string(p), "a")
}

// Reading one frame off long bytes takes no copy of all of them.
func TestReadTakesItsFrameAlone(t *testing.T) {
	b := append([]byte(paperFrame("a")), make([]byte, 1<<24)...)
	var before, behind runtime.MemStats
	runtime.ReadMemStats(&before)
	for range 100 {
		frame.Read(b)
	}
	runtime.ReadMemStats(&behind)
	if more := behind.TotalAlloc - before.TotalAlloc; more > 1<<23 {
		t.Errorf("a hundred Reads took %d bytes", more)
	}
}

// W0: bytes by chance, with marks and small lengths strewn in, in every call; none panics, and all tell what they must.
func TestAllBytes(t *testing.T) {
	r := rand.New(rand.NewSource(9))
	for range 20000 {
		b := []byte(by(r, r.Intn(40)))
		for i := range b {
			switch r.Intn(4) {
			case 0:
				b[i] = 197
			case 1, 2:
				b[i] = 0
			}
		}
		sameMake(t, "bytes by chance", b, paperFrame(string(b)), api.OK)
		sameRead(t, "bytes by chance", string(b), paperRead(string(b)))
		tells(t, "bytes by chance", string(b), paperWalk(string(b)))
	}
}

// The chapter's limit: taken at it, and one more is not, of Make and of Read.
func TestLimit(t *testing.T) {
	same(t, "the limit", api.MaxPayload, 65536)
	at, more := great(api.MaxPayload), great(api.MaxPayload+1)
	sameMake(t, "at the limit", []byte(at), paperFrame(at), api.OK)
	sameMake(t, "one more", []byte(more), "", api.ErrLarge)
	sameRead(t, "at the limit", paperFrame(at), taken(at))
	sameRead(t, "one more", paperFrame(more), refused(api.ErrLarge))
	tells(t, "at the limit, then one more", paperFrame(at)+paperFrame(more), stepsOf(at))
}

// The chapter's examples.
func TestExamples(t *testing.T) {
	seven := "\xc5\x00\x00\x00\x01\x07" + string([]byte{119, 152, 138, 70})
	sameMake(t, "nothing", nil, string([]byte{197, 0, 0, 0, 0, 231, 215, 144, 182}), api.OK)
	sameMake(t, "7", []byte{7}, seven, api.OK)
	sameRead(t, "that", seven, reading{"\x07", 10, api.OK})
	sameRead(t, "that with 1 2 3 behind", seven+"\x01\x02\x03", reading{"\x07", 10, api.OK})
	sameRead(t, "nothing", "", refused(api.ErrCut))
	sameRead(t, "196 ..", "\xc4\x00\x00\x00\x00", refused(api.ErrMark))
	sameRead(t, "197 0 0 0", "\xc5\x00\x00\x00", refused(api.ErrCut))
	sameRead(t, "197 0 1 0 1", "\xc5\x00\x01\x00\x01", refused(api.ErrLarge))
	sameRead(t, "197 0 1 0 0", "\xc5\x00\x01\x00\x00", refused(api.ErrCut))
	sameRead(t, "8 in the place of 7", seven[:5]+"\x08"+seven[6:], refused(api.ErrSum))
	all := seven + made(t, "") + made(t, "\x01\x02") + "\xc5"
	tells(t, "three frames and a mark", all, []step{{10, "\x07"}, {19, ""}, {30, "\x01\x02"}})
	for _, none := range []string{"", "\x05"} {
		tells(t, "no frame", none, nil)
	}
}
