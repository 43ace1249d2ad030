package area_test

import (
	"math"
	"testing"

	"cloister/api"
	"cloister/area"
)

// P7.1: New, and the zero value, which is such a one; each goes on like it.
func TestNew(t *testing.T) {
	var zero area.Area
	for _, a := range []*area.Area{area.New(), &zero, {}} {
		p := &paper{}
		if a == nil {
			t.Fatal("New is not there")
		}
		holds(t, "new", a, p)
		same(t, "Cut(0)", a.Cut(0), api.OK)
		same(t, "Cut(1)", a.Cut(1), api.ErrRange)
		same(t, "Trim(0)", a.Trim(0), api.OK)
		same(t, "Trim(1)", a.Trim(1), api.ErrRange)
		same(t, "Crash", a.Crash(9, 9), api.OK)
		same(t, "Sync", a.Sync(), api.OK)
		holds(t, "still new", a, p)
		same(t, "Append", a.Append([]byte("ab")), p.lay("ab"))
		holds(t, "behind an Append", a, p)
		same(t, "Sync", a.Sync(), p.sync())
		holds(t, "behind a Sync", a, p)
	}
}

// P7.1: areas know nothing of one another.
func TestApart(t *testing.T) {
	a, b := area.New(), area.New()
	a.Append([]byte("x"))
	a.Sync()
	holds(t, "the other one", b, &paper{})
	span := api.Span{Base: 3, Bytes: []byte("abc")}
	c, _ := area.Load(span)
	d, _ := area.Load(span)
	c.Append([]byte("d"))
	c.Trim(5)
	c.Crash(1, 255)
	_, p := laid(t, 3, "abc", "")
	holds(t, "another one of that span", d, p)
}

// P7.1: Load with bases at both ends and beyond, with bytes and without.
func TestLoad(t *testing.T) {
	for _, text := range []string{"", "x", "\x00\xff\x00", string(make([]byte, 70000))} {
		for _, base := range []int{math.MinInt, math.MinInt + 1, -most, -2, -1, most + 1, most + 2, math.MaxInt - 1, math.MaxInt} {
			a, code := area.Load(api.Span{Base: base, Bytes: []byte(text)})
			if a != nil || code != api.ErrArg {
				t.Errorf("Load of the base %d with %d bytes: got %v, %v", base, len(text), a, code)
			}
		}
		for _, base := range []int{0, 1, 7, 1 << 31, 1 << 40, most - 1, most} {
			a, p := laid(t, base, text, "")
			base, safe, end := a.Bounds()
			same(t, "Load: Bounds", [3]int{base, safe, end}, [3]int{p.base, p.base + len(text), p.base + len(text)})
		}
	}
	for _, none := range [][]byte{nil, {}, make([]byte, 9)[:0]} {
		a, code := area.Load(api.Span{Base: 5, Bytes: none})
		same(t, "Load of no bytes", code, api.OK)
		holds(t, "Load of no bytes", a, &paper{base: 5})
	}
}

// P7.1, Limits: an area with the greatest base takes bytes like another one, and its base may rise.
func TestGreatestBase(t *testing.T) {
	a, p := laid(t, most, "", "")
	same(t, "Append", a.Append([]byte("hello")), p.lay("hello"))
	holds(t, "loose at the greatest base", a, p)
	same(t, "Sync", a.Sync(), p.sync())
	same(t, "Trim", a.Trim(most+3), p.trim(most+3))
	holds(t, "above the greatest base", a, p)
	base, safe, end := a.Bounds()
	same(t, "Bounds", [3]int{base, safe, end}, [3]int{most + 3, most + 5, most + 5})
	_, code := area.Load(a.Image())
	same(t, "Load of its Image", code, api.ErrArg)
}

// P7.2: Append of bytes, of none, behind a Sync; Sync of loose bytes, and of none.
func TestAppendAndSync(t *testing.T) {
	shapes(t, func(what string, make func() (*area.Area, *paper)) {
		for _, text := range []string{"", "+", "+\x00\xff+", "a longer one than there was room for"} {
			a, p := make()
			same(t, what+": Append", a.Append([]byte(text)), p.lay(text))
			holds(t, what+": behind an Append", a, p)
			same(t, what+": Append of nil", a.Append(nil), api.OK)
			same(t, what+": Append of none", a.Append([]byte{}), api.OK)
			holds(t, what+": behind Appends of none", a, p)
			same(t, what+": Sync", a.Sync(), p.sync())
			holds(t, what+": behind a Sync", a, p)
			same(t, what+": a second Sync", a.Sync(), api.OK)
			holds(t, what+": behind a second Sync", a, p)
			same(t, what+": Append behind a Sync", a.Append([]byte("!")), p.lay("!"))
			holds(t, what+": behind an Append behind a Sync", a, p)
		}
	})
}

// P7.2: bytes of every value, in many Appends and in one.
func TestAppendInPieces(t *testing.T) {
	var all []byte
	for i := range 3000 {
		all = append(all, byte(i*7))
	}
	for _, length := range []int{1, 2, 3, 64, 1000, 3000} {
		a, p := area.New(), &paper{}
		for at := 0; at < len(all); at += length {
			piece := all[at:min(at+length, len(all))]
			same(t, "Append", a.Append(piece), p.lay(string(piece)))
		}
		holds(t, "in pieces", a, p)
	}
}

// atEveryOffset does a call at every offset in and around areas of every small shape, and holds them against their papers, then and behind further calls.
func atEveryOffset(t *testing.T, name string, call func(a *area.Area, at int) api.Errno, onPaper func(p *paper, at int) api.Errno) {
	t.Helper()
	shapes(t, func(what string, make func() (*area.Area, *paper)) {
		_, whole := make()
		for _, at := range offsets(whole) {
			a, p := make()
			same(t, what+": "+name, call(a, at), onPaper(p, at))
			holds(t, what+": behind a "+name, a, p)
			same(t, what+": Append behind a "+name, a.Append([]byte("new")), p.lay("new"))
			holds(t, what+": behind an Append behind a "+name, a, p)
			same(t, what+": Crash behind a "+name, a.Crash(2, 3), p.crash(2, 3))
			holds(t, what+": behind a Crash behind a "+name, a, p)
		}
	})
}

// row is an offset, what a call with it must answer, and what the area must tell behind it.
type row struct {
	at   int
	code api.Errno
	told string
}

// P7.3: Cut at every offset in and around an area; which bytes are left, and which of them are safe.
func TestCut(t *testing.T) {
	atEveryOffset(t, "Cut", (*area.Area).Cut, (*paper).cut)
}

// P7.3: where a Cut ends, said once more by hand.
func TestCutByHand(t *testing.T) {
	for _, r := range []row{
		{9, api.ErrRange, `10 14 17, 10 "safe"`},
		{10, api.OK, `10 10 10, 10 ""`},
		{12, api.OK, `10 12 12, 10 "sa"`},
		{14, api.OK, `10 14 14, 10 "safe"`},
		{15, api.OK, `10 14 15, 10 "safe"`},
		{17, api.OK, `10 14 17, 10 "safe"`},
		{18, api.ErrRange, `10 14 17, 10 "safe"`},
	} {
		a, _ := laid(t, 10, "safe", "los")
		same(t, "Cut", a.Cut(r.at), r.code)
		same(t, "behind it", told(a), r.told)
	}
}

// P7.3: no loss of power brings bytes back that were cut.
func TestCutIsSafe(t *testing.T) {
	for keep := -1; keep < 9; keep++ {
		for end := range 8 {
			a, p := laid(t, 0, "safe", "los")
			same(t, "Cut", a.Cut(end), p.cut(end))
			same(t, "Crash", a.Crash(keep, 0), p.crash(keep, 0))
			holds(t, "cut and struck", a, p)
			if _, _, now := a.Bounds(); now > end {
				t.Errorf("Cut(%d), then Crash(%d): bytes up to %d", end, keep, now)
			}
			same(t, "Cut to an offset that was there", a.Cut(end+1), api.ErrRange)
		}
	}
}

// P7.4: Trim to every offset in and around an area; what is left keeps its offsets.
func TestTrim(t *testing.T) {
	atEveryOffset(t, "Trim", (*area.Area).Trim, (*paper).trim)
}

// P7.4: where a Trim goes to, said once more by hand; the loose bytes stay.
func TestTrimByHand(t *testing.T) {
	for _, r := range []row{
		{9, api.ErrRange, `10 14 17, 10 "safe"`},
		{10, api.OK, `10 14 17, 10 "safe"`},
		{12, api.OK, `12 14 17, 12 "fe"`},
		{14, api.OK, `14 14 17, 14 ""`},
		{15, api.ErrRange, `10 14 17, 10 "safe"`},
		{17, api.ErrRange, `10 14 17, 10 "safe"`},
		{18, api.ErrRange, `10 14 17, 10 "safe"`},
	} {
		a, _ := laid(t, 10, "safe", "los")
		same(t, "Trim", a.Trim(r.at), r.code)
		same(t, "behind it", told(a), r.told)
		sameRead(t, "the loose bytes behind it", a, 14, 3, "los", api.OK)
	}
}

// P7.4: what was trimmed away does not come back, and loose bytes may be trimmed once they are safe.
func TestTrimIsSafe(t *testing.T) {
	a, p := laid(t, 10, "safe", "los")
	same(t, "Trim to the safe end", a.Trim(14), p.trim(14))
	same(t, "Trim back", a.Trim(12), api.ErrRange)
	same(t, "Cut ahead of the base", a.Cut(13), api.ErrRange)
	same(t, "Crash", a.Crash(0, 0), p.crash(0, 0))
	holds(t, "all are gone", a, p)
	same(t, "Bounds and Image", told(a), `14 14 14, 14 ""`)
	same(t, "Append", a.Append([]byte("new")), p.lay("new"))
	same(t, "Trim of loose bytes", a.Trim(15), p.trim(15))
	same(t, "Sync", a.Sync(), p.sync())
	same(t, "Trim of safe bytes", a.Trim(15), p.trim(15))
	holds(t, "behind it", a, p)
}

// P7.5: Read with every offset and every number in and around an area, and with such as together are no int.
func TestRead(t *testing.T) {
	shapes(t, func(what string, make func() (*area.Area, *paper)) {
		a, p := make()
		for _, at := range offsets(p) {
			for _, n := range lengths(p) {
				want, code := p.read(at, n)
				sameRead(t, what, a, at, n, want, code)
			}
		}
		holds(t, what+": behind the Reads", a, p)
	})
}

// P7.5: what Read takes, said once more by hand.
func TestReadByHand(t *testing.T) {
	a, _ := laid(t, 10, "safe", "los")
	for _, row := range []struct {
		at, n int
		want  string
		code  api.Errno
	}{
		{10, 0, "", api.OK}, {10, 1, "s", api.OK}, {10, 7, "safelos", api.OK}, {10, 8, "", api.ErrRange},
		{12, 4, "felo", api.OK}, {13, 1, "e", api.OK}, {14, 1, "l", api.OK}, {16, 1, "s", api.OK}, {16, 2, "", api.ErrRange},
		{17, 0, "", api.OK}, {17, 1, "", api.ErrRange}, {18, 0, "", api.ErrRange}, {18, -1, "", api.ErrRange}, {9, 0, "", api.ErrRange}, {9, 1, "", api.ErrRange},
		{10, -1, "", api.ErrRange}, {17, -1, "", api.ErrRange}, {0, 0, "", api.ErrRange}, {-1, 12, "", api.ErrRange},
		{math.MaxInt, math.MaxInt, "", api.ErrRange}, {math.MaxInt, 1, "", api.ErrRange}, {11, math.MaxInt, "", api.ErrRange}, {11, math.MaxInt - 10, "", api.ErrRange},
		{math.MinInt, math.MinInt, "", api.ErrRange}, {math.MinInt, math.MaxInt, "", api.ErrRange}, {math.MaxInt, math.MinInt, "", api.ErrRange}, {10, math.MinInt, "", api.ErrRange},
	} {
		sameRead(t, "by hand", a, row.at, row.n, row.want, row.code)
	}
}

// P7.6, P7.8: Bounds and Image behind each of the calls.
func TestBoundsAndImage(t *testing.T) {
	a := loaded(t, 5, "abc")
	behind := func(what string, code, want api.Errno, is string) {
		t.Helper()
		same(t, what, code, want)
		for range 2 {
			same(t, "behind "+what, told(a), is)
		}
	}
	behind("Load", api.OK, api.OK, `5 8 8, 5 "abc"`)
	behind("Append", a.Append([]byte("de")), api.OK, `5 8 10, 5 "abc"`)
	behind("Append of none", a.Append(nil), api.OK, `5 8 10, 5 "abc"`)
	_, code := a.Read(6, 3)
	behind("Read", code, api.OK, `5 8 10, 5 "abc"`)
	_, code = a.Read(6, 5)
	behind("a Read that is refused", code, api.ErrRange, `5 8 10, 5 "abc"`)
	behind("Cut", a.Cut(9), api.OK, `5 8 9, 5 "abc"`)
	behind("a Cut that is refused", a.Cut(10), api.ErrRange, `5 8 9, 5 "abc"`)
	behind("Trim", a.Trim(6), api.OK, `6 8 9, 6 "bc"`)
	behind("a Trim that is refused", a.Trim(9), api.ErrRange, `6 8 9, 6 "bc"`)
	behind("Sync", a.Sync(), api.OK, `6 9 9, 6 "bcd"`)
	behind("a second Append", a.Append([]byte("xyz")), api.OK, `6 9 12, 6 "bcd"`)
	behind("Crash", a.Crash(2, 1), api.OK, `6 11 11, 6 "bcdxx"`)
	behind("a Cut of safe bytes", a.Cut(8), api.OK, `6 8 8, 6 "bc"`)
	behind("a Trim of all", a.Trim(8), api.OK, `8 8 8, 8 ""`)
	behind("a third Append", a.Append([]byte("e")), api.OK, `8 8 9, 8 ""`)
}

// P7.9: every call of an area that is not there; Append of bytes and of none, and whatever the numbers are.
func TestNone(t *testing.T) {
	var none *area.Area
	for range 2 {
		for _, n := range []int{math.MinInt, -1, 0, 1, math.MaxInt} {
			same(t, "Cut", none.Cut(n), api.ErrNil)
			same(t, "Trim", none.Trim(n), api.ErrNil)
			same(t, "Crash", none.Crash(n, byte(n)), api.ErrNil)
			for _, m := range []int{math.MinInt, -1, 0, 1, math.MaxInt} {
				sameRead(t, "none", none, n, m, "", api.ErrNil)
			}
		}
		same(t, "Append", none.Append([]byte("x")), api.ErrNil)
		same(t, "Append of none", none.Append(nil), api.ErrNil)
		same(t, "Sync", none.Sync(), api.ErrNil)
		same(t, "Bounds and Image", told(none), `0 0 0, 0 ""`)
	}
}
