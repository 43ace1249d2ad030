package disk_test

import (
	"fmt"
	"math"
	"testing"

	"cloister/api"
	"cloister/disk"
)

// notArmed does operations at every area and strikes: a disk that is not armed takes them all, and keeps nothing loose.
func notArmed(t *testing.T, what string, d *disk.Disk, p *paper) {
	t.Helper()
	for i, s := range p.sheets {
		both(t, what, d, p, call{kind: doAppend, area: i, text: "ab"}, call{kind: doSync, area: i},
			call{kind: doAppend, area: i, text: "c"}, call{kind: doTrim, area: i, at: s.base + 1})
		same(t, what+": Done", d.Done(i), 4)
	}
	holds(t, what+": behind operations", d, p)
	both(t, what, d, p, call{kind: doStrike})
	holds(t, what+": behind a Strike", d, p)
}

// P8.1, P8.2, Limits: New with numbers at both ends and beyond.
func TestNew(t *testing.T) {
	for _, areas := range []int{math.MinInt, -1, 0, api.MaxLabels + 1, api.MaxLabels + 2, 1 << 40, math.MaxInt} {
		d, code := disk.New(areas)
		if d != nil || code != api.ErrArg {
			t.Errorf("New(%d): got %v, %v", areas, d, code)
		}
	}
	for areas := 1; areas <= api.MaxLabels; areas++ {
		what := fmt.Sprintf("New(%d)", areas)
		d, p := made(t, areas)
		same(t, what+": Areas", d.Areas(), areas)
		holds(t, what, d, p)
		notArmed(t, what, d, p)
		same(t, what+": Areas, behind all that", d.Areas(), areas)
	}
}

// spans is so many spans, each with a base and bytes of its own.
func spans(count int) []api.Span {
	all := make([]api.Span, count)
	for i := range all {
		all[i] = api.Span{Base: i * 1000, Bytes: []byte(fmt.Sprintf("%d bytes", i))}
	}
	return all
}

// P8.1, P8.2, Limits: Load of none, of as many as may be, of more; what the disk tells then.
func TestLoad(t *testing.T) {
	for _, none := range [][]api.Span{nil, {}, spans(3)[:0], spans(api.MaxLabels + 1), spans(100)} {
		d, code := disk.Load(none)
		if d != nil || code != api.ErrArg {
			t.Errorf("Load of %d spans: got %v, %v", len(none), d, code)
		}
	}
	for count := 1; count <= api.MaxLabels; count++ {
		what := fmt.Sprintf("Load of %d", count)
		d, p := loaded(t, spans(count)...)
		same(t, what+": Areas", d.Areas(), count)
		holds(t, what, d, p)
		both(t, what, d, p, call{kind: doStrike})
		holds(t, what+": all was safe", d, p)
		notArmed(t, what, d, p)
	}
	d, p := loaded(t, api.Span{Base: most}, api.Span{Base: 5}, api.Span{}, api.Span{Base: 3, Bytes: []byte{}}, api.Span{Base: most, Bytes: []byte("x")})
	holds(t, "Load of spans without bytes", d, p)
	notArmed(t, "Load of spans without bytes", d, p)
}

// P8.1: Load of spans one of which layer 7 refuses, wherever it stands.
func TestLoadRefused(t *testing.T) {
	for _, count := range []int{1, 2, 3, api.MaxLabels} {
		for at := range count {
			for _, base := range []int{math.MinInt, -1, most + 1, math.MaxInt} {
				all := spans(count)
				all[at].Base = base
				d, code := disk.Load(all)
				if d != nil || code != api.ErrArg {
					t.Errorf("Load of %d spans, the base %d at %d: got %v, %v", count, base, at, d, code)
				}
			}
			all := spans(count)
			all[at].Base = most
			d, p := loaded(t, all...)
			holds(t, "Load with the greatest base", d, p)
		}
	}
}

// P8.1: disks know nothing of one another, made alike or of the same spans.
func TestDisksApart(t *testing.T) {
	one, p := made(t, 2)
	two, blank := made(t, 2)
	one.Arm([]api.Fate{{Done: 3}})
	p.arm([]api.Fate{{Done: 3}})
	both(t, "one", one, p, operations(0)...)
	holds(t, "one", one, p)
	holds(t, "the other one", two, blank)
	notArmed(t, "the other one", two, blank)

	all := spans(3)
	one, p = loaded(t, all...)
	two, q := loaded(t, all...)
	both(t, "one of spans", one, p, call{kind: doCut, area: 1, at: 1001}, call{kind: doAppend, area: 1, text: "x"}, call{kind: doStrike})
	holds(t, "one of spans", one, p)
	holds(t, "the other one of spans", two, q)
}

// P8.9: every call of a disk that is not there, whatever the arguments.
func TestNone(t *testing.T) {
	var d *disk.Disk
	for _, i := range []int{math.MinInt, -1, 0, 1, api.MaxLabels, math.MaxInt} {
		for _, at := range []int{math.MinInt, -1, 0, 1, math.MaxInt} {
			same(t, "Append", d.Append(i, []byte("x")), api.ErrNil)
			same(t, "Append of none", d.Append(i, nil), api.ErrNil)
			same(t, "Sync", d.Sync(i), api.ErrNil)
			same(t, "Cut", d.Cut(i, at), api.ErrNil)
			same(t, "Trim", d.Trim(i, at), api.ErrNil)
			b, code := d.Read(i, at, at)
			same(t, "Read", fmt.Sprintf("%q %d", b, code), `"" 1`)
			base, safe, end, code := d.Bounds(i)
			same(t, "Bounds", fmt.Sprint(base, safe, end, int(code)), "0 0 0 1")
			same(t, "Done", d.Done(i), 0)
			same(t, "Areas", d.Areas(), 0)
			same(t, "Image", len(d.Image()), 0)
			d.Arm(nil)
			d.Arm([]api.Fate{{Done: at}})
			d.Strike()
		}
	}
}
