package area_test

import (
	"bytes"
	"math"
	"runtime"
	"testing"
	"weak"

	"cloister/api"
	"cloister/area"
)

// spare is bytes with spare room behind them that holds others, and the whole of it.
func spare(text string) (given, whole []byte) {
	whole = append([]byte(text), "spare room"...)
	return whole[:len(text)], whole
}

// busy does every call to an area and to its paper, so that bytes of every kind come and go.
func busy(a *area.Area, p *paper) {
	a.Append([]byte("abcdef"))
	p.lay("abcdef")
	a.Crash(3, 255)
	p.crash(3, 255)
	a.Trim(p.safeEnd() - 2)
	p.trim(p.safeEnd() - 2)
	a.Append([]byte("ghi"))
	p.lay("ghi")
	a.Cut(p.end() - 1)
	p.cut(p.end() - 1)
	a.Sync()
	p.sync()
	a.Append([]byte("jk"))
	p.lay("jk")
}

// Memory: what is handed in is not changed, spare room included, by that call or a later one.
func TestNothingChanged(t *testing.T) {
	for _, text := range []string{"", "x", "hello"} {
		given, whole := spare(text)
		before := bytes.Clone(whole)
		a, code := area.Load(api.Span{Base: 3, Bytes: given})
		same(t, "Load", code, api.OK)
		same(t, "Crash", a.Crash(9, 255), api.OK)
		_, p := laid(t, 3, text, "")
		busy(a, p)
		holds(t, "behind Load and more", a, p)
		same(t, "handed to Load", string(whole), string(before))

		given, whole = spare(text)
		a, p = area.New(), &paper{}
		same(t, "Append", a.Append(given), p.lay(text))
		same(t, "Crash", a.Crash(len(text), 255), p.crash(len(text), 255))
		same(t, "Append again", a.Append(given), p.lay(text))
		busy(a, p)
		holds(t, "behind Appends and more", a, p)
		same(t, "handed to Append", string(whole), string(before))
		_, code = area.Load(api.Span{Base: -1, Bytes: given})
		same(t, "a Load that is refused", code, api.ErrArg)
		same(t, "Append to none", (*area.Area)(nil).Append(given), api.ErrNil)
		same(t, "handed to calls that are refused", string(whole), string(before))
	}
}

// Memory: what is handed in is not kept: writing over it changes nothing that the area tells.
func TestNothingKept(t *testing.T) {
	given, whole := spare("hello")
	a, code := area.Load(api.Span{Base: 3, Bytes: given})
	same(t, "Load", code, api.OK)
	clear(whole)
	_, p := laid(t, 3, "hello", "")
	holds(t, "written over behind Load", a, p)
	for _, text := range []string{"a", " you", "a longer one than there was room for"} {
		given, whole = spare(text)
		same(t, "Append", a.Append(given), p.lay(text))
		clear(whole)
		holds(t, "written over behind Append", a, p)
		a.Sync()
		p.sync()
		holds(t, "written over behind Sync", a, p)
	}
}

// scribble writes over an answer, its spare room too.
func scribble(b []byte) {
	b = b[:cap(b)]
	for i := range b {
		b[i] ^= 0xff
	}
}

// Memory: what Read and Image answer is new memory, spare room too: writing over it changes neither the area nor another answer.
func TestAnswersAreNew(t *testing.T) {
	shapes(t, func(what string, make func() (*area.Area, *paper)) {
		a, p := make()
		all := p.text(func(cell) bool { return true })
		safe := p.text(func(c cell) bool { return c.safe })
		for from := range len(all) + 1 {
			for n := range len(all) - from + 1 {
				one, _ := a.Read(p.base+from, n)
				two, _ := a.Read(p.base+from, n)
				three, four := a.Image(), a.Image()
				scribble(one)
				scribble(three.Bytes)
				same(t, what+": another Read", string(two), all[from:from+n])
				same(t, what+": another Image", string(four.Bytes), safe)
				holds(t, what+": written over", a, p)
				_ = append(two, "appended"...)
				_ = append(four.Bytes, "appended"...)
				holds(t, what+": appended to", a, p)
			}
		}
		a.Append([]byte("new"))
		p.lay("new")
		holds(t, what+": goes on", a, p)
	})
}

// Memory: what the area does later changes no earlier answer.
func TestAnswersStay(t *testing.T) {
	shapes(t, func(what string, make func() (*area.Area, *paper)) {
		a, p := make()
		all := p.text(func(cell) bool { return true })
		safe := p.text(func(c cell) bool { return c.safe })
		read, _ := a.Read(p.base, len(all))
		image := a.Image()
		a.Crash(len(all), 255)
		p.crash(len(all), 255)
		busy(a, p)
		holds(t, what+": goes on", a, p)
		same(t, what+": an earlier Read", string(read), all)
		same(t, what+": an earlier Image", string(image.Bytes), safe)
		same(t, what+": an earlier Image's base", image.Base <= p.base, true)
	})
}

// What is handed in is let go, also where none of it was taken.
func TestHandedInIsLetGo(t *testing.T) {
	for _, length := range []int{0, 1, 100} {
		a := area.New()
		big := make([]byte, 1<<16)
		watch := weak.Make(&big[0])
		b, code := area.Load(api.Span{Bytes: big[:length]})
		same(t, "Load", code, api.OK)
		same(t, "Append", a.Append(big[:length]), api.OK)
		runtime.GC()
		if watch.Value() != nil {
			t.Errorf("%d bytes of what was handed in: all of it is held on to", length)
		}
		runtime.KeepAlive(a)
		runtime.KeepAlive(b)
	}
}

// inUse is how many bytes the program holds on to.
func inUse() int {
	runtime.GC()
	var stats runtime.MemStats
	runtime.ReadMemStats(&stats)
	return int(stats.HeapAlloc)
}

// Bytes that were cut, trimmed away or lost with the power are let go.
func TestGoneIsLetGo(t *testing.T) {
	const size = 1 << 20
	ways := map[string]func(a *area.Area){
		"cut":             func(a *area.Area) { a.Cut(3) },
		"cut to none":     func(a *area.Area) { a.Cut(0) },
		"trimmed":         func(a *area.Area) { a.Sync(); a.Trim(size - 3) },
		"trimmed to none": func(a *area.Area) { a.Sync(); a.Trim(size) },
		"lost":            func(a *area.Area) { a.Crash(3, 0) },
		"lost to none":    func(a *area.Area) { a.Crash(0, 0) },
	}
	for what, lose := range ways {
		before := inUse()
		areas := make([]area.Area, 16)
		for i := range areas {
			areas[i].Append(make([]byte, size))
			lose(&areas[i])
		}
		if more := inUse() - before; more > 4*size {
			t.Errorf("%s: %d bytes are held on to", what, more)
		}
		runtime.KeepAlive(areas)
	}
}

// W0: every call with numbers of every greatness, in every order of two; none panics, and the area goes on as it must.
func TestAllNumbers(t *testing.T) {
	numbers := []int{math.MinInt, math.MinInt + 1, -most - 1, -most, -1 << 32, -1, 0, 1, 2, 5, 9, 1 << 31, 1 << 32, most - 1, most, most + 1, math.MaxInt - 1, math.MaxInt}
	for _, base := range []int{0, 4, most} {
		for _, one := range numbers {
			for _, two := range numbers {
				a, p := laid(t, base, "safe", "los")
				want, code := p.read(one, two)
				sameRead(t, "all numbers", a, one, two, want, code)
				same(t, "Trim", a.Trim(one), p.trim(one))
				same(t, "Cut", a.Cut(two), p.cut(two))
				same(t, "Crash", a.Crash(one, byte(two)), p.crash(one, byte(two)))
				same(t, "Cut", a.Cut(one), p.cut(one))
				same(t, "Trim", a.Trim(two), p.trim(two))
				holds(t, "all numbers", a, p)
			}
		}
	}
}

// W0: a copy of an area, and the area it was copied from, go on without a panic, whatever becomes of the other.
func TestCopies(t *testing.T) {
	a, _ := laid(t, 3, "safe", "los")
	other := *a
	for i := range 30 {
		a.Append([]byte("more"))
		other.Crash(i%4, byte(i))
		other.Append([]byte("other"))
		a.Cut(5 + i%3)
		a.Sync()
		_, safe, end := other.Bounds()
		other.Trim(safe - 1)
		other.Read(safe, end-safe)
		other.Image()
	}
}

// A great area: bytes without number, some of them lost.
func TestGreat(t *testing.T) {
	piece := bytes.Repeat([]byte("0123456789abcdef"), 4096)
	a := area.New()
	for range 64 {
		same(t, "Append", a.Append(piece), api.OK)
	}
	size := 64 * len(piece)
	same(t, "Sync", a.Sync(), api.OK)
	same(t, "Append", a.Append(piece), api.OK)
	same(t, "Crash", a.Crash(17, 1), api.OK)
	base, safe, end := a.Bounds()
	same(t, "Bounds", [3]int{base, safe, end}, [3]int{0, size + 17, size + 17})
	sameRead(t, "a great one", a, size-2, 19, "ef0123456789abcdef1", api.OK)
	same(t, "Trim", a.Trim(size-4), api.OK)
	sameRead(t, "a great one that was trimmed", a, size-4, 21, "cdef0123456789abcdef1", api.OK)
}

// The chapter's examples.
func TestExamples(t *testing.T) {
	a := area.New()
	tells := func(wantBase, wantSafe, wantEnd int) {
		t.Helper()
		base, safe, end := a.Bounds()
		same(t, "Bounds", [3]int{base, safe, end}, [3]int{wantBase, wantSafe, wantEnd})
	}
	images := func(base int, text string) {
		t.Helper()
		image := a.Image()
		same(t, "Image's base", image.Base, base)
		same(t, "Image's bytes", string(image.Bytes), text)
	}
	tells(0, 0, 0)
	same(t, "Append", a.Append([]byte("hello")), api.OK)
	tells(0, 0, 5)
	sameRead(t, "hello", a, 1, 3, "ell", api.OK)
	same(t, "Sync", a.Sync(), api.OK)
	same(t, "Append", a.Append([]byte(" you")), api.OK)
	tells(0, 5, 9)
	images(0, "hello")
	sameRead(t, "hello you", a, 5, 5, "", api.ErrRange)
	sameRead(t, "hello you", a, -1, 1, "", api.ErrRange)
	sameRead(t, "hello you", a, 9, 0, "", api.OK)
	sameRead(t, "hello you", a, 10, 0, "", api.ErrRange)
	sameRead(t, "hello you", a, 2, -1, "", api.ErrRange)
	same(t, "Trim(6)", a.Trim(6), api.ErrRange)
	same(t, "Trim(2)", a.Trim(2), api.OK)
	tells(2, 5, 9)
	sameRead(t, "llo you", a, 1, 1, "", api.ErrRange)
	sameRead(t, "llo you", a, 2, 3, "llo", api.OK)
	same(t, "Crash(2, 1)", a.Crash(2, 1), api.OK)
	tells(2, 7, 7)
	sameRead(t, "llo x", a, 2, 5, "llo x", api.OK)
	same(t, "Cut(4)", a.Cut(4), api.OK)
	tells(2, 4, 4)
	same(t, "Cut(5)", a.Cut(5), api.ErrRange)
	same(t, "Cut(1)", a.Cut(1), api.ErrRange)
	same(t, "Append", a.Append([]byte("abc")), api.OK)
	same(t, "Cut(6)", a.Cut(6), api.OK)
	tells(2, 4, 6)
	same(t, "Crash(-3, 255)", a.Crash(-3, 255), api.OK)
	images(2, "ll")
	for _, base := range []int{-1, most + 1} {
		none, code := area.Load(api.Span{Base: base})
		same(t, "Load", code, api.ErrArg)
		same(t, "Load's area", none, nil)
	}
	a = loaded(t, 7, "x")
	tells(7, 8, 8)
	a = nil
	same(t, "Append to none", a.Append([]byte("x")), api.ErrNil)
	sameRead(t, "none", a, 0, 0, "", api.ErrNil)
	tells(0, 0, 0)
	images(0, "")
}
