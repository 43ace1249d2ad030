package area_test

import (
	"fmt"
	"math"
	"math/big"
	"math/rand"
	"testing"

	"cloister/api"
	"cloister/area"
)

// most is the greatest base that Load takes.
const most = 1 << 62

// same holds an answer against what is wanted.
func same[A comparable](t *testing.T, what string, got, want A) {
	t.Helper()
	if got != want {
		t.Errorf("%.300s: got %.300s, want %.300s", what, fmt.Sprintf("%#v", got), fmt.Sprintf("%#v", want))
	}
}

// cell is a byte of an area, with its offset.
type cell struct {
	at    int
	value byte
	safe  bool
}

// paper is an area as the chapter's words have it: a base, and bytes each of which has an offset and is safe or loose.
type paper struct {
	base  int
	cells []cell
}

func (p *paper) end() int { return p.base + len(p.cells) }

func (p *paper) safeEnd() int {
	end := p.base
	for _, c := range p.cells {
		if c.safe {
			end = c.at + 1
		}
	}
	return end
}

// text is the bytes that a choice takes.
func (p *paper) text(takes func(c cell) bool) string {
	var b []byte
	for _, c := range p.cells {
		if takes(c) {
			b = append(b, c.value)
		}
	}
	return string(b)
}

// only leaves the bytes that a choice takes.
func (p *paper) only(takes func(c cell) bool) {
	var left []cell
	for _, c := range p.cells {
		if takes(c) {
			left = append(left, c)
		}
	}
	p.cells = left
}

func (p *paper) lay(text string) api.Errno {
	for _, value := range []byte(text) {
		p.cells = append(p.cells, cell{p.end(), value, false})
	}
	return api.OK
}

func (p *paper) sync() api.Errno {
	for i := range p.cells {
		p.cells[i].safe = true
	}
	return api.OK
}

func (p *paper) cut(end int) api.Errno {
	if end < p.base || end > p.end() {
		return api.ErrRange
	}
	p.only(func(c cell) bool { return c.at < end })
	return api.OK
}

func (p *paper) trim(base int) api.Errno {
	if base < p.base || base > p.safeEnd() {
		return api.ErrRange
	}
	p.only(func(c cell) bool { return c.at >= base })
	p.base = base
	return api.OK
}

// read adds its numbers as numbers of any greatness.
func (p *paper) read(at, n int) (string, api.Errno) {
	together := new(big.Int).Add(big.NewInt(int64(at)), big.NewInt(int64(n)))
	if n < 0 || at < p.base || together.Cmp(big.NewInt(int64(p.end()))) > 0 {
		return "", api.ErrRange
	}
	return p.text(func(c cell) bool { return c.at >= at && c.at < at+n }), api.OK
}

func (p *paper) crash(keep int, torn byte) api.Errno {
	safeEnd, last := p.safeEnd(), -1
	p.only(func(c cell) bool { return c.safe || c.at-safeEnd < keep })
	for i, c := range p.cells {
		if !c.safe {
			last = i
		}
	}
	if last >= 0 {
		p.cells[last].value ^= torn
	}
	return p.sync()
}

func (p *paper) copy() *paper { return &paper{p.base, append([]cell(nil), p.cells...)} }

// told is what an area's bounds and its image are, as a text.
func told(a *area.Area) string {
	base, safe, end := a.Bounds()
	image := a.Image()
	return fmt.Sprintf("%d %d %d, %d %q", base, safe, end, image.Base, image.Bytes)
}

func (p *paper) told() string {
	return fmt.Sprintf("%d %d %d, %d %q", p.base, p.safeEnd(), p.end(), p.base, p.text(func(c cell) bool { return c.safe }))
}

// sameRead holds what Read answers against what is wanted.
func sameRead(t *testing.T, what string, a *area.Area, at, n int, want string, code api.Errno) {
	t.Helper()
	got, is := a.Read(at, n)
	if string(got) != want || is != code {
		t.Errorf("%s: Read(%d, %d): got %.300q %v, want %.300q %v", what, at, n, got, is, want, code)
	}
}

// holds holds all that an area tells against its paper; it asks twice, since asking must change nothing.
func holds(t *testing.T, what string, a *area.Area, p *paper) {
	t.Helper()
	for range 2 {
		same(t, what+": Bounds and Image", told(a), p.told())
		sameRead(t, what, a, p.base, len(p.cells), p.text(func(cell) bool { return true }), api.OK)
	}
}

// loaded is an area that Load must make.
func loaded(t *testing.T, base int, safe string) *area.Area {
	t.Helper()
	a, code := area.Load(api.Span{Base: base, Bytes: []byte(safe)})
	if a == nil || code != api.OK {
		t.Fatalf("Load(%d, %q): got %v, %v", base, safe, a, code)
	}
	return a
}

// laid is an area with a base, safe bytes and loose ones, and its paper.
func laid(t *testing.T, base int, safe, loose string) (*area.Area, *paper) {
	t.Helper()
	a, p := loaded(t, base, safe), &paper{base: base}
	p.lay(safe)
	p.sync()
	if loose != "" {
		same(t, "Append", a.Append([]byte(loose)), p.lay(loose))
	}
	holds(t, "laid", a, p)
	return a, p
}

// shapes does something with areas of every small shape, each new, at small and at great bases.
func shapes(t *testing.T, do func(what string, make func() (*area.Area, *paper))) {
	t.Helper()
	for _, base := range []int{0, 1, 7, most - 1, most} {
		for safe := range 5 {
			for loose := range 5 {
				what := fmt.Sprintf("base %d, %d safe, %d loose", base, safe, loose)
				do(what, func() (*area.Area, *paper) {
					return laid(t, base, "safe"[:safe], "LOOS"[:loose])
				})
			}
		}
	}
}

// offsets is offsets in and around an area, and such as are far from every one.
func offsets(p *paper) []int {
	all := []int{math.MinInt, math.MinInt + 1, -most, -1, 0, 1, most, most + 1, math.MaxInt - 1, math.MaxInt}
	for at := p.base - 3; at <= p.end()+3; at++ {
		all = append(all, at)
	}
	return all
}

// lengths is numbers of bytes, as many as an area has and less and more.
func lengths(p *paper) []int {
	all := []int{math.MinInt, math.MinInt + 1, -most, -2, -1, 1 << 31, most, most + 1, math.MaxInt - 1, math.MaxInt, -p.base, math.MaxInt - p.base, math.MaxInt - p.end()}
	for n := range len(p.cells) + 4 {
		all = append(all, n)
	}
	return all
}

// textBy is a text by chance, of at most so many bytes.
func textBy(r *rand.Rand, most int) string {
	b := make([]byte, r.Intn(most+1))
	r.Read(b)
	return string(b)
}

// near is an offset by chance, mostly in the area, now and then outside it.
func near(r *rand.Rand, p *paper) int {
	return p.base - 2 + r.Intn(len(p.cells)+5)
}

// step does one call by chance to an area and to its paper, and holds the answers against each other.
func step(t *testing.T, r *rand.Rand, a *area.Area, p *paper) {
	t.Helper()
	switch r.Intn(10) {
	case 0, 1, 2, 3:
		text := textBy(r, 9)
		same(t, "Append", a.Append([]byte(text)), p.lay(text))
	case 4, 5:
		same(t, "Sync", a.Sync(), p.sync())
	case 6:
		end := near(r, p)
		same(t, "Cut", a.Cut(end), p.cut(end))
	case 7:
		base := near(r, p)
		same(t, "Trim", a.Trim(base), p.trim(base))
	case 8:
		keep, torn := r.Intn(12)-2, byte(r.Intn(256))
		same(t, "Crash", a.Crash(keep, torn), p.crash(keep, torn))
	case 9:
		at, n := near(r, p), r.Intn(len(p.cells)+3)-1
		want, code := p.read(at, n)
		sameRead(t, "a row of calls", a, at, n, want, code)
	}
}
