package disk_test

import (
	"fmt"
	"math/rand"
	"testing"

	"cloister/api"
	"cloister/disk"
)

// most is the greatest base that a span may have.
const most = 1 << 62

// same holds an answer against what is wanted.
func same[A comparable](t *testing.T, what string, got, want A) {
	t.Helper()
	if got != want {
		t.Errorf("%.300s: got %.300s, want %.300s", what, fmt.Sprintf("%#v", got), fmt.Sprintf("%#v", want))
	}
}

// sheet is an area as the words of its chapter have it, and what the disk's chapter says of it: its fate and its count.
type sheet struct {
	base        int
	safe, loose string
	fate        api.Fate
	count       int
}

func (s *sheet) all() string { return s.safe + s.loose }

func (s *sheet) safeEnd() int { return s.base + len(s.safe) }

func (s *sheet) end() int { return s.base + len(s.all()) }

func (s *sheet) lay(text string) api.Errno {
	s.loose += text
	return api.OK
}

func (s *sheet) sync() api.Errno {
	s.safe, s.loose = s.all(), ""
	return api.OK
}

func (s *sheet) cut(end int) api.Errno {
	if end < s.base || end > s.end() {
		return api.ErrRange
	}
	left := s.all()[:end-s.base]
	s.safe = left[:min(len(left), len(s.safe))]
	s.loose = left[len(s.safe):]
	return api.OK
}

func (s *sheet) trim(base int) api.Errno {
	if base < s.base || base > s.safeEnd() {
		return api.ErrRange
	}
	s.safe = s.safe[base-s.base:]
	s.base = base
	return api.OK
}

func (s *sheet) read(at, n int) (string, api.Errno) {
	if n < 0 || at < s.base || at > s.end() || n > s.end()-at {
		return "", api.ErrRange
	}
	return s.all()[at-s.base:][:n], api.OK
}

func (s *sheet) crash(keep int, torn byte) {
	kept := []byte(s.loose)
	if keep < len(kept) {
		kept = kept[:max(keep, 0)]
	}
	if len(kept) > 0 {
		kept[len(kept)-1] ^= torn
	}
	s.safe, s.loose = s.safe+string(kept), ""
}

// paper is a disk as the chapter's words have it.
type paper struct {
	armed  bool
	sheets []*sheet
}

func blank(areas int) *paper {
	p := &paper{}
	for range areas {
		p.sheets = append(p.sheets, &sheet{})
	}
	return p
}

func (p *paper) has(i int) bool { return i >= 0 && i < len(p.sheets) }

func (p *paper) operate(i int, do func(s *sheet) api.Errno) api.Errno {
	if !p.has(i) {
		return api.ErrArea
	}
	s := p.sheets[i]
	if p.armed && s.count >= max(s.fate.Done, 0) {
		return api.ErrDown
	}
	code := do(s)
	if code == api.OK {
		s.count++
	}
	return code
}

func (p *paper) arm(fates []api.Fate) {
	p.armed = true
	for i, s := range p.sheets {
		s.fate, s.count = api.Fate{}, 0
		if i < len(fates) {
			s.fate = fates[i]
		}
	}
}

func (p *paper) strike() {
	for _, s := range p.sheets {
		if p.armed {
			s.crash(s.fate.Keep, s.fate.Torn)
		} else {
			s.crash(0, 0)
		}
		s.count = 0
	}
	p.armed = false
}

// Kinds of calls.
const (
	doAppend = iota
	doSync
	doCut
	doTrim
	doRead
	doBounds
	doDone
	doArm
	doStrike
	doImage
)

// call is a call of a disk, so that it can be asked of a disk and of its paper.
type call struct {
	kind, area int
	text       string
	at, n      int
	fates      []api.Fate
}

// String is the call as a text that any screen can show.
func (c call) String() string {
	kinds := []string{"Append", "Sync", "Cut", "Trim", "Read", "Bounds", "Done", "Arm", "Strike", "Image"}
	return fmt.Sprintf("%s of area %d (text %q, at %d, n %d, fates %v)", kinds[c.kind], c.area, c.text, c.at, c.n, c.fates)
}

// ask is what a disk answers, as a text.
func (c call) ask(d *disk.Disk) string {
	switch c.kind {
	case doAppend:
		return fmt.Sprint(d.Append(c.area, []byte(c.text)))
	case doSync:
		return fmt.Sprint(d.Sync(c.area))
	case doCut:
		return fmt.Sprint(d.Cut(c.area, c.at))
	case doTrim:
		return fmt.Sprint(d.Trim(c.area, c.at))
	case doRead:
		b, code := d.Read(c.area, c.at, c.n)
		return fmt.Sprintf("%q %v", b, code)
	case doBounds:
		base, safe, end, code := d.Bounds(c.area)
		return fmt.Sprint(base, safe, end, code)
	case doDone:
		return fmt.Sprint(d.Done(c.area))
	case doArm:
		d.Arm(c.fates)
	case doStrike:
		d.Strike()
	case doImage:
		return images(d)
	}
	return ""
}

// want is what a disk must answer, as a text.
func (c call) want(p *paper) string {
	switch c.kind {
	case doAppend:
		return fmt.Sprint(p.operate(c.area, func(s *sheet) api.Errno { return s.lay(c.text) }))
	case doSync:
		return fmt.Sprint(p.operate(c.area, (*sheet).sync))
	case doCut:
		return fmt.Sprint(p.operate(c.area, func(s *sheet) api.Errno { return s.cut(c.at) }))
	case doTrim:
		return fmt.Sprint(p.operate(c.area, func(s *sheet) api.Errno { return s.trim(c.at) }))
	case doArm:
		p.arm(c.fates)
	case doStrike:
		p.strike()
	case doImage:
		return p.images()
	default:
		return c.wantTold(p)
	}
	return ""
}

// wantTold is what a call must answer that only tells.
func (c call) wantTold(p *paper) string {
	there := p.has(c.area)
	switch {
	case c.kind == doRead && there:
		text, code := p.sheets[c.area].read(c.at, c.n)
		return fmt.Sprintf("%q %v", text, code)
	case c.kind == doRead:
		return fmt.Sprintf("%q %v", "", api.ErrArea)
	case c.kind == doBounds && there:
		s := p.sheets[c.area]
		return fmt.Sprint(s.base, s.safeEnd(), s.end(), api.OK)
	case c.kind == doBounds:
		return fmt.Sprint(0, 0, 0, api.ErrArea)
	case c.kind == doDone && there:
		return fmt.Sprint(p.sheets[c.area].count)
	}
	return "0"
}

// both asks a disk and its paper, and holds the answers against each other.
func both(t *testing.T, what string, d *disk.Disk, p *paper, calls ...call) {
	t.Helper()
	for _, c := range calls {
		same(t, fmt.Sprintf("%s: %v", what, c), c.ask(d), c.want(p))
	}
}

// operations is one of each kind of operation at an area, each of which a new one takes.
func operations(area int) []call {
	return []call{
		{kind: doAppend, area: area, text: "+"},
		{kind: doSync, area: area},
		{kind: doCut, area: area},
		{kind: doTrim, area: area},
	}
}

// images is what Image answers, as a text.
func images(d *disk.Disk) string {
	told := ""
	for _, span := range d.Image() {
		told += fmt.Sprintf("%d %q; ", span.Base, span.Bytes)
	}
	return told
}

func (p *paper) images() string {
	told := ""
	for _, s := range p.sheets {
		told += fmt.Sprintf("%d %q; ", s.base, s.safe)
	}
	return told
}

// holds holds all that a disk tells against its paper; it asks twice, since asking must change nothing.
func holds(t *testing.T, what string, d *disk.Disk, p *paper) {
	t.Helper()
	for range 2 {
		same(t, what+": Areas", d.Areas(), len(p.sheets))
		same(t, what+": Image", images(d), p.images())
		for i, s := range p.sheets {
			both(t, what, d, p, call{kind: doBounds, area: i}, call{kind: doDone, area: i},
				call{kind: doRead, area: i, at: s.base, n: len(s.all())})
		}
		for _, none := range []int{-1, len(p.sheets)} {
			both(t, what, d, p, call{kind: doBounds, area: none}, call{kind: doDone, area: none}, call{kind: doRead, area: none})
		}
	}
}

// made is a disk that New must make, and its paper.
func made(t *testing.T, areas int) (*disk.Disk, *paper) {
	t.Helper()
	d, code := disk.New(areas)
	if d == nil || code != api.OK {
		t.Fatalf("New(%d): got %v, %v", areas, d, code)
	}
	return d, blank(areas)
}

// loaded is a disk that Load must make, and its paper.
func loaded(t *testing.T, spans ...api.Span) (*disk.Disk, *paper) {
	t.Helper()
	d, code := disk.Load(spans)
	if d == nil || code != api.OK {
		t.Fatalf("Load of %d spans: got %v, %v", len(spans), d, code)
	}
	p := &paper{}
	for _, span := range spans {
		p.sheets = append(p.sheets, &sheet{base: span.Base, safe: string(span.Bytes)})
	}
	return d, p
}

// laid is a disk of areas of three shapes: safe bytes and loose ones, loose ones alone at a base, none. All counts are above 0.
func laid(t *testing.T) (*disk.Disk, *paper) {
	t.Helper()
	d, p := loaded(t, api.Span{Bytes: []byte("safe")}, api.Span{Base: 7}, api.Span{Base: most})
	both(t, "laid", d, p, call{kind: doAppend, area: 0, text: "LOOS"}, call{kind: doAppend, area: 1, text: "los"}, call{kind: doSync, area: 2})
	holds(t, "laid", d, p)
	return d, p
}

// fateBy is a fate by chance, with numbers below 0 now and then.
func fateBy(r *rand.Rand) api.Fate {
	return api.Fate{Done: r.Intn(9) - 1, Keep: r.Intn(14) - 2, Torn: byte(r.Intn(256))}
}

// fatesBy is fates by chance, so many at most.
func fatesBy(r *rand.Rand, most int) []api.Fate {
	fates := make([]api.Fate, r.Intn(most+1))
	for i := range fates {
		fates[i] = fateBy(r)
	}
	return fates
}

// ofArea is a call by chance of an area; its offsets are mostly in the sheet, now and then outside it.
func ofArea(r *rand.Rand, area int, s *sheet) call {
	c := call{kind: doAppend, area: area, at: s.base - 2 + r.Intn(len(s.all())+5), n: r.Intn(len(s.all())+3) - 1}
	switch r.Intn(12) {
	case 0, 1, 2, 3:
		b := make([]byte, r.Intn(9))
		r.Read(b)
		c.text = string(b)
	case 4, 5:
		c.kind = doSync
	case 6:
		c.kind = doCut
	case 7:
		c.kind = doTrim
	case 8, 9:
		c.kind = doRead
	case 10:
		c.kind = doBounds
	case 11:
		c.kind = doDone
	}
	return c
}

// byChance is a call by chance of a disk.
func byChance(r *rand.Rand, p *paper) call {
	switch r.Intn(40) {
	case 0, 1:
		return call{kind: doArm, fates: fatesBy(r, len(p.sheets)+2)}
	case 2:
		return call{kind: doStrike}
	case 3:
		return call{kind: doImage}
	case 4:
		return ofArea(r, -1-r.Intn(3), &sheet{})
	case 5:
		return ofArea(r, len(p.sheets)+r.Intn(3), &sheet{})
	}
	i := r.Intn(len(p.sheets))
	return ofArea(r, i, p.sheets[i])
}
