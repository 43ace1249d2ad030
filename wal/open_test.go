package wal_test

import (
	"fmt"
	"math"
	"testing"

	"cloister/api"
	"cloister/disk"
	"cloister/wal"
)

// refusedOpen holds that Open makes no log.
func refusedOpen(t *testing.T, what string, d *disk.Disk, area int, want api.Errno) {
	t.Helper()
	l, code := wal.Open(d, area)
	same(t, fmt.Sprint(what, ", area ", area), code, want)
	same(t, fmt.Sprint(what, ", area ", area, ": a log"), l != nil, false)
}

// P11.1: a disk that is not there, whatever the area.
func TestOpenOfNoDisk(t *testing.T) {
	for _, area := range []int{math.MinInt, -1, 0, 1, 15, 16, math.MaxInt} {
		refusedOpen(t, "no disk", nil, area, api.ErrNil)
	}
}

// P11.1: areas below 0, the first and the last one, and beyond.
func TestOpenOfAreas(t *testing.T) {
	for _, areas := range []int{1, 2, 3, api.MaxLabels} {
		d, _ := disk.New(areas)
		for _, none := range []int{math.MinInt, -1 << 32, -areas, -1, areas, areas + 1, 1 << 32, math.MaxInt} {
			refusedOpen(t, fmt.Sprint(areas, " areas"), d, none, api.ErrArea)
		}
		for area := range areas {
			l := logOf(t, d, area)
			same(t, "Write", l.Write([]api.Entry{put("k", "v").entryOf()}), api.OK)
			for other := range areas {
				_, _, end, _ := d.Bounds(other)
				same(t, fmt.Sprint("log ", area, ", area ", other, " has bytes"), end > 0, other <= area)
			}
		}
	}
}

// P11.1: no operation is asked: nothing is counted, changed or made safe, and a disk that is down does not matter.
func TestOpenAsksNothing(t *testing.T) {
	d := loaded(t, api.Span{Bytes: []byte(row(few()...))}, api.Span{Base: 7, Bytes: []byte("none")}, api.Span{})
	for i := range 3 {
		d.Append(i, []byte("loose"))
	}
	for _, armed := range []bool{false, true} {
		if armed {
			d.Arm(nil)
		}
		before := diskTells(d)
		for area := -1; area <= 3; area++ {
			_, code := wal.Open(d, area)
			same(t, "Open", code == api.OK, area >= 0 && area < 3)
		}
		same(t, "the disk", diskTells(d), before)
	}
}

// Two logs of one area are one; those of unlike areas, and of unlike disks, are not.
func TestTwoLogs(t *testing.T) {
	p := blank(t)
	other := logOf(t, p.d, p.area)
	beside := logOf(t, p.d, 2)
	besideTold := told(t, "beside", beside)
	same(t, "Write", other.Write(entriesOf(few()[:3])), api.OK)
	tells(t, "written by the other", p.l, stepsOf(0, few()[:3]...))
	same(t, "Group", p.l.Group(entriesOf(few()[3:])), api.OK)
	tells(t, "written by both", other, stepsOf(0, few()...))
	all := stepsOf(0, few()...)
	same(t, "Cut", other.Cut(all[5].end), api.OK)
	same(t, "Trim", p.l.Trim(all[1].end), api.OK)
	later := logOf(t, p.d, p.area)
	for _, l := range []*wal.Log{p.l, other, later} {
		tells(t, "cut and trimmed", l, all[2:6])
		base, safe, end := l.Bounds()
		same(t, "Bounds", [3]int{base, safe, end}, [3]int{all[1].end, all[5].end, all[5].end})
	}
	sameSteps(t, "another area", told(t, "beside", beside), besideTold)
	same(t, "the area ahead", fmt.Sprintf("%s", p.d.Image()[0].Bytes), "before")
}

// P11.1: the log uses the disk: it tells what comes to the area past it.
func TestLogUsesItsDisk(t *testing.T) {
	p := blank(t)
	p.lay(row(few()...))
	tells(t, "laid past the log", p.l, stepsOf(0, few()...))
	p.strike(t, "laid past the log")
	tells(t, "lost", p.l, nil)
	p.write(t, "behind the loss", few()...)
	tells(t, "behind the loss", p.l, stepsOf(0, few()...))
}
