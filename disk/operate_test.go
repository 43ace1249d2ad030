package disk_test

import (
	"fmt"
	"math"
	"testing"

	"cloister/api"
	"cloister/disk"
)

// nowhere is numbers of areas that a disk of so many areas has not.
func nowhere(areas int) []int {
	return []int{math.MinInt, math.MinInt + 1, -areas, -2, -1, areas, areas + 1, api.MaxLabels, 1 << 32, math.MaxInt - 1, math.MaxInt}
}

// P8.3: each operation of every area that is there does what the area does, and is counted there alone.
func TestOperations(t *testing.T) {
	for _, areas := range []int{1, 2, 3, api.MaxLabels} {
		for i := range areas {
			what := fmt.Sprintf("area %d of %d", i, areas)
			d, p := made(t, areas)
			for _, c := range []call{
				{kind: doAppend, area: i, text: "hello"},
				{kind: doAppend, area: i},
				{kind: doSync, area: i},
				{kind: doSync, area: i},
				{kind: doAppend, area: i, text: "\x00\xff"},
				{kind: doCut, area: i, at: 6},
				{kind: doCut, area: i, at: 6},
				{kind: doTrim, area: i, at: 2},
				{kind: doTrim, area: i, at: 2},
				{kind: doCut, area: i, at: 3},
			} {
				before := d.Done(i)
				both(t, what, d, p, c)
				same(t, what+": Done", d.Done(i), before+1)
				holds(t, what, d, p)
			}
			same(t, what+": Done at last", d.Done(i), 10)
		}
	}
}

// P8.3, P8.4, P8.5: of an area that is not there: ErrArea and nothing else, armed or not; nothing changes.
func TestNoSuchArea(t *testing.T) {
	for _, fates := range [][]api.Fate{nil, {{Done: 9}, {Done: 9}, {Done: 9}, {Done: 9}}} {
		d, p := laid(t)
		if fates != nil {
			both(t, "armed", d, p, call{kind: doArm, fates: fates})
		}
		for _, i := range nowhere(3) {
			what := fmt.Sprintf("area %d", i)
			for _, at := range []int{math.MinInt, -1, 0, 1, 7, math.MaxInt} {
				same(t, what+": Append", d.Append(i, []byte("x")), api.ErrArea)
				same(t, what+": Append of none", d.Append(i, nil), api.ErrArea)
				same(t, what+": Sync", d.Sync(i), api.ErrArea)
				same(t, what+": Cut", d.Cut(i, at), api.ErrArea)
				same(t, what+": Trim", d.Trim(i, at), api.ErrArea)
				b, code := d.Read(i, at, at)
				same(t, what+": Read", fmt.Sprintf("%q %v", b, code), fmt.Sprintf("%q %v", "", api.ErrArea))
				base, safe, end, code := d.Bounds(i)
				same(t, what+": Bounds", fmt.Sprint(base, safe, end, code), fmt.Sprint(0, 0, 0, api.ErrArea))
				same(t, what+": Done", d.Done(i), 0)
			}
		}
		holds(t, "behind calls of no area", d, p)
	}
}

// P8.3, P8.5: ErrRange of Cut and Trim changes nothing and is not counted, armed or not.
func TestOutOfRange(t *testing.T) {
	for _, armed := range []bool{false, true} {
		d, p := laid(t)
		if armed {
			both(t, "armed", d, p, call{kind: doArm, fates: []api.Fate{{Done: 1}, {Done: 1}, {Done: 1}}})
		}
		for i, s := range p.sheets {
			before := d.Done(i)
			for _, at := range []int{math.MinInt, -1, s.base - 1, s.end() + 1, math.MaxInt} {
				same(t, "Cut", d.Cut(i, at), api.ErrRange)
				same(t, "Trim", d.Trim(i, at), api.ErrRange)
			}
			if len(s.loose) > 0 {
				same(t, "Trim to what is loose", d.Trim(i, s.safeEnd()+1), api.ErrRange)
			}
			same(t, "Done", d.Done(i), before)
			holds(t, "behind what was out of range", d, p)
			both(t, "one that is in range", d, p, call{kind: doCut, area: i, at: s.base})
			same(t, "Done", d.Done(i), before+1)
			holds(t, "behind one that was in range", d, p)
		}
	}
}

// P8.3, P8.12: an armed disk carries out as many operations as Done says, of each kind; then each is ErrDown, and nothing has changed.
func TestDown(t *testing.T) {
	for _, done := range []int{math.MinInt, -2, -1, 0, 1, 2, 3, 7} {
		for i := range 3 {
			for first := range 4 {
				what := fmt.Sprintf("Done %d, area %d, from operation %d on", done, i, first)
				d, p := laid(t)
				fates := []api.Fate{{Done: 99}, {Done: 99}, {Done: 99}}
				fates[i].Done = done
				both(t, what, d, p, call{kind: doArm, fates: fates})
				for n := range max(done, 0) {
					c := operations(i)[(first+n)%4]
					c.at = p.sheets[i].base
					same(t, what+": up", c.ask(d), fmt.Sprint(api.OK))
					c.want(p)
					same(t, what+": Done", d.Done(i), n+1)
				}
				for _, c := range operations(i) {
					c.at = p.sheets[i].base
					same(t, what+": down", c.ask(d), fmt.Sprint(api.ErrDown))
					holds(t, what+": down", d, p)
				}
				both(t, what+": another one", d, p, operations((i+1)%3)...)
				holds(t, what+": another one", d, p)
			}
		}
	}
}

// P8.3, P8.12: with a Done that is never reached nothing is refused.
func TestNeverDown(t *testing.T) {
	d, p := made(t, 1)
	both(t, "armed", d, p, call{kind: doArm, fates: []api.Fate{{Done: math.MaxInt}}})
	for range 1000 {
		both(t, "never down", d, p, operations(0)...)
	}
	same(t, "Done", d.Done(0), 4000)
	holds(t, "never down", d, p)
}

// P8.3, the order of errors: which comes first where several would do.
func TestWhichErrorFirst(t *testing.T) {
	var none *disk.Disk
	same(t, "no disk, no area, out of range", none.Cut(-1, -1), api.ErrNil)
	d, p := laid(t)
	both(t, "armed", d, p, call{kind: doArm, fates: []api.Fate{{Done: 0}, {Done: 1}}})
	for _, i := range []int{-1, 3} {
		same(t, "no area, down, out of range: Cut", d.Cut(i, -1), api.ErrArea)
		same(t, "no area, down, out of range: Trim", d.Trim(i, -1), api.ErrArea)
		same(t, "no area, down: Append", d.Append(i, nil), api.ErrArea)
		same(t, "no area, down: Sync", d.Sync(i), api.ErrArea)
		_, code := d.Read(i, -1, -1)
		same(t, "no area, out of range: Read", code, api.ErrArea)
	}
	for _, at := range []int{math.MinInt, -1, 99, math.MaxInt} {
		same(t, "down, out of range: Cut", d.Cut(0, at), api.ErrDown)
		same(t, "down, out of range: Trim", d.Trim(0, at), api.ErrDown)
		same(t, "up, out of range: Cut", d.Cut(1, at), api.ErrRange)
		same(t, "up, out of range: Trim", d.Trim(1, at), api.ErrRange)
	}
	holds(t, "behind all that", d, p)
}

// P8.4: Read and Bounds tell what the area does, of every piece of it and beyond it; not armed, armed, and down.
func TestReadAndBounds(t *testing.T) {
	for _, fates := range [][]api.Fate{nil, {{Done: 5}, {Done: 5}, {Done: 5}}, {}} {
		d, p := laid(t)
		if fates != nil {
			both(t, "armed", d, p, call{kind: doArm, fates: fates})
		}
		for i, s := range p.sheets {
			both(t, "Bounds", d, p, call{kind: doBounds, area: i})
			for at := s.base - 2; at <= s.end()+2; at++ {
				for n := -2; n <= len(s.all())+2; n++ {
					both(t, "Read", d, p, call{kind: doRead, area: i, at: at, n: n})
				}
				for _, n := range []int{math.MinInt, math.MaxInt, math.MaxInt - at} {
					both(t, "Read", d, p, call{kind: doRead, area: i, at: at, n: n})
				}
			}
		}
		holds(t, "behind all that", d, p)
	}
}

// P8.4: said once more by hand.
func TestToldByHand(t *testing.T) {
	d, _ := laid(t)
	for _, row := range []struct {
		c    call
		told string
	}{
		{call{kind: doBounds, area: 0}, "0 4 8 error 0"},
		{call{kind: doBounds, area: 1}, "7 7 10 error 0"},
		{call{kind: doBounds, area: 2}, "4611686018427387904 4611686018427387904 4611686018427387904 error 0"},
		{call{kind: doRead, area: 0, at: 2, n: 4}, `"feLO" error 0`},
		{call{kind: doRead, area: 1, at: 8, n: 2}, `"os" error 0`},
		{call{kind: doRead, area: 1, at: 6, n: 1}, `"" error 70`},
		{call{kind: doRead, area: 2, at: most}, `"" error 0`},
		{call{kind: doRead, area: 3}, `"" error 81`},
		{call{kind: doDone, area: 2}, "1"},
		{call{kind: doImage}, `0 "safe"; 7 ""; 4611686018427387904 ""; `},
	} {
		same(t, fmt.Sprint(row.c), row.c.ask(d), row.told)
	}
}
