package area_test

import (
	"math/rand"
	"testing"

	"cloister/api"
	"cloister/area"
)

// P7.2 to P7.8: over rows of calls by chance an area is what the chapter's words say.
func TestRowsOfCalls(t *testing.T) {
	r := rand.New(rand.NewSource(7))
	for _, base := range []int{0, 1, 1000, most} {
		for range 30 {
			a, p := laid(t, base, textBy(r, 5), textBy(r, 5))
			for range 400 {
				step(t, r, a, p)
				holds(t, "in the midst of a row of calls", a, p)
				if t.Failed() {
					t.Fatal("the base was ", base)
				}
			}
		}
	}
}

// P7.3 to P7.5: a call that is refused changes nothing, now or later.
func TestRefusedChangesNothing(t *testing.T) {
	r := rand.New(rand.NewSource(73))
	for range 200 {
		a, p := laid(t, r.Intn(20), textBy(r, 9), textBy(r, 9))
		b, _ := laid(t, p.base, p.text(func(c cell) bool { return c.safe }), p.text(func(c cell) bool { return !c.safe }))
		for _, at := range offsets(p) {
			if at < p.base || at > p.end() {
				same(t, "Cut", a.Cut(at), api.ErrRange)
			}
			if at < p.base || at > p.safeEnd() {
				same(t, "Trim", a.Trim(at), api.ErrRange)
			}
			sameRead(t, "refused", a, at, -1, "", api.ErrRange)
		}
		holds(t, "behind calls that are refused", a, p)
		for range 20 {
			seed := r.Int63()
			step(t, rand.New(rand.NewSource(seed)), a, p.copy())
			step(t, rand.New(rand.NewSource(seed)), b, p)
			same(t, "one that was refused and one that was not", told(a), told(b))
		}
	}
}

// seen is a byte that was read at an offset; a byte that is sure was there at a Sync or a Crash.
type seen struct {
	value byte
	sure  bool
}

// look reads each byte of an area by itself, and holds it against what was seen before.
func look(t *testing.T, a *area.Area, all map[int]seen) {
	t.Helper()
	base, safe, end := a.Bounds()
	for at := base; at < end; at++ {
		b, code := a.Read(at, 1)
		if code != api.OK || len(b) != 1 {
			t.Fatalf("Read(%d, 1): got %v %v", at, b, code)
		}
		if before, is := all[at]; is && before.value != b[0] {
			t.Fatalf("the byte at %d was %d, and is %d", at, before.value, b[0])
		}
		all[at] = seen{b[0], at < safe}
	}
	for at, before := range all {
		if at < base || at >= end {
			t.Fatalf("the byte at %d (sure: %v) is gone: %d to %d", at, before.sure, base, end)
		}
	}
}

// forget takes away what may be another byte, or none, behind a call.
func forget(all map[int]seen, gone func(at int, s seen) bool) {
	for at, s := range all {
		if gone(at, s) {
			delete(all, at)
		}
	}
}

// P7.10, P7.11: a byte stays at its offset until it is cut, trimmed away or lost with the power, what was made safe through every Crash; the base never falls.
func TestOffsetsStay(t *testing.T) {
	r := rand.New(rand.NewSource(710))
	for range 60 {
		a, all, last := area.New(), map[int]seen{}, 0
		for range 300 {
			base, safe, end := a.Bounds()
			if base < last {
				t.Fatalf("the base was %d, and is %d", last, base)
			}
			last = base
			switch r.Intn(8) {
			case 0, 1, 2:
				a.Append([]byte(textBy(r, 6)))
			case 3, 4:
				a.Sync()
			case 5:
				cut := base + r.Intn(end-base+1)
				same(t, "Cut", a.Cut(cut), api.OK)
				forget(all, func(at int, _ seen) bool { return at >= cut })
			case 6:
				trim := base + r.Intn(safe-base+1)
				same(t, "Trim", a.Trim(trim), api.OK)
				forget(all, func(at int, _ seen) bool { return at < trim })
			case 7:
				keep := r.Intn(6)
				a.Crash(keep, byte(r.Intn(256)))
				forget(all, func(at int, s seen) bool { return !s.sure && at >= safe+keep-1 || at == end-1 && at >= safe })
			}
			look(t, a, all)
		}
	}
}

// P7.11: behind a Sync, and whatever is appended and kept then, in many losses of power, the bytes stay where they are.
func TestMadeSafeStays(t *testing.T) {
	r := rand.New(rand.NewSource(711))
	for range 100 {
		a, p := laid(t, r.Intn(50), textBy(r, 20), textBy(r, 20))
		same(t, "Sync", a.Sync(), api.OK)
		want := p.text(func(cell) bool { return true })
		for range 30 {
			for range r.Intn(4) {
				a.Append([]byte(textBy(r, 10)))
			}
			if r.Intn(3) > 0 {
				a.Crash(r.Intn(30)-5, byte(r.Intn(256)))
			}
			sameRead(t, "made safe", a, p.base, len(want), want, api.OK)
			if image := a.Image(); len(image.Bytes) < len(want) || string(image.Bytes[:len(want)]) != want {
				t.Fatalf("made safe: the Image is %q, and was %q", image.Bytes, want)
			}
		}
	}
}

// P7.12: over rows of calls by chance Load of the Image is what a Crash that keeps nothing leaves.
func TestImageInRowsOfCalls(t *testing.T) {
	r := rand.New(rand.NewSource(712))
	for range 100 {
		a, p := laid(t, r.Intn(9), "", "")
		for range 60 {
			step(t, r, a, p)
			if r.Intn(8) > 0 {
				continue
			}
			b, code := area.Load(a.Image())
			same(t, "Load", code, api.OK)
			same(t, "Crash", a.Crash(0, 77), p.crash(0, 77))
			holds(t, "struck", a, p)
			holds(t, "loaded", b, p)
			a = b
		}
	}
}
