package wal_test

import (
	"bytes"
	"fmt"
	"math"
	"runtime"
	"slices"
	"strings"
	"sync"
	"testing"
	"weak"

	"cloister/api"
	"cloister/disk"
	"cloister/wal"
)

// spare is bytes with spare room behind them that holds others, and the whole of it.
func spare(text string) (given, whole []byte) {
	whole = append([]byte(text), "spare room"...)
	return whole[:len(text)], whole
}

// handed is entries with spare room behind their list and behind each of their values, and all of it.
func handed(facts []fact) (given, list []api.Entry, values [][]byte) {
	for _, f := range facts {
		e := f.entryOf()
		value, whole := spare(f.value)
		e.Value = value
		list, values = append(list, e), append(values, whole)
	}
	list = append(list, put("spare", "room").entryOf(), wrong()[0].entryOf())
	return list[:len(facts)], list, values
}

// Memory: entries that are handed in are neither changed nor kept, spare room included, whatever is answered.
func TestHandedInNotChanged(t *testing.T) {
	for _, facts := range [][]fact{nil, few()[:1], few(), append(few(), wrong()...)} {
		for _, done := range []int{0, 3, 99} {
			for _, grouped := range []bool{false, true} {
				p := blank(t)
				p.arm(api.Fate{Done: done, Keep: 99, Torn: 255})
				given, list, values := handed(facts)
				before := fmt.Sprint(list, values)
				if grouped {
					same(t, "Group", p.l.Group(given), p.wantGroup(facts))
				} else {
					same(t, "Write", p.l.Write(given), p.wantWrite(facts))
				}
				same(t, "handed in", fmt.Sprint(list, values), before)
				for _, whole := range values {
					clear(whole)
				}
				clear(list)
				p.holds(t, "written over")
				before = fmt.Sprint(list, values)
				p.strike(t, "written over")
				p.group(t, "goes on", few()...)
				p.cut(t, "goes on", 0)
				same(t, "handed in, behind more", fmt.Sprint(list, values), before)
			}
		}
	}
}

// scribble writes over a list of entries and its values, its spare room too.
func scribble(entries []api.Entry, ends []int) {
	for _, e := range entries {
		value := e.Value[:cap(e.Value)]
		for i := range value {
			value[i] ^= 0xff
		}
	}
	for i := range entries[:cap(entries)] {
		entries[:cap(entries)][i] = wrong()[1].entryOf()
	}
	for i := range ends[:cap(ends)] {
		ends[:cap(ends)][i] = -7
	}
}

// Memory: what Entries tells is new memory each time, the lists and each value, spare room too.
func TestEntriesAreNew(t *testing.T) {
	p := lain(t, 3, few()...)
	want := stepsOf(3, few()...)
	one, oneEnds := p.l.Entries()
	two, twoEnds := p.l.Entries()
	scribble(one, oneEnds)
	for i, s := range want {
		same(t, "another answer", step{factOf(two[i]), twoEnds[i]}, s)
	}
	p.holds(t, "written over")
	for i := range two {
		scribble(two[i:i+1:i+1], nil)
		for j := i + 1; j < len(two); j++ {
			same(t, "another entry of the same answer", factOf(two[j]), few()[j])
		}
		_ = append(two[i].Value, "appended"...)
	}
	p.holds(t, "appended to")
	earlier, ends := p.l.Entries()
	p.group(t, "goes on", few()...)
	p.trim(t, "goes on", want[2].end)
	p.cut(t, "goes on", want[2].end)
	p.write(t, "goes on", few()[5])
	for i, s := range want {
		same(t, "an earlier answer", step{factOf(earlier[i]), ends[i]}, s)
	}
}

// Memory: what one tells can be handed in again, to the same log.
func TestToldIsHandedIn(t *testing.T) {
	p := lain(t, 0, few()...)
	entries, _ := p.l.Entries()
	same(t, "Group", p.l.Group(entries), api.OK)
	tells(t, "twice", p.l, stepsOf(0, slices.Concat(few(), few())...))
	scribble(entries, nil)
	tells(t, "twice, written over", p.l, stepsOf(0, slices.Concat(few(), few())...))
}

// What is handed in is let go, also where it was refused.
func TestHandedInIsLetGo(t *testing.T) {
	p := blank(t)
	entries := make([]api.Entry, 100)
	big := make([]byte, 1<<16)
	for i := range entries {
		entries[i] = api.Entry{Kind: api.EntryPut, Key: "k", Value: big[i:100]}
	}
	entries[99] = api.Entry{}
	listAt, valueAt := weak.Make(&entries[0]), weak.Make(&big[0])
	same(t, "Write", p.l.Write(entries), api.ErrEntry)
	same(t, "Group", p.l.Group(entries), api.ErrEntry)
	same(t, "Group", p.l.Group(entries[:99]), api.OK)
	runtime.GC()
	same(t, "entries are held on to", listAt.Value() != nil, false)
	same(t, "values are held on to", valueAt.Value() != nil, false)
	runtime.KeepAlive(p)
}

// What a log tells does not hold on to all the bytes that it was read of.
func TestToldHoldsNothing(t *testing.T) {
	p := opened(t, 0, api.Span{Bytes: []byte(row(few()[0]) + great(1<<20))})
	var all [][]api.Entry
	for range 64 {
		entries, _ := p.l.Entries()
		all = append(all, entries)
	}
	runtime.GC()
	var stats runtime.MemStats
	runtime.ReadMemStats(&stats)
	if stats.HeapAlloc > 1<<25 {
		t.Errorf("%d bytes are held", stats.HeapAlloc)
	}
	same(t, "told", len(all[63]), 1)
}

// Logs of unlike areas go on beside one another, from unlike goroutines.
func TestLogsBesideOneAnother(t *testing.T) {
	d := loaded(t, make([]api.Span, api.MaxLabels)...)
	logs := make([]*wal.Log, api.MaxLabels)
	for i := range logs {
		logs[i] = logOf(t, d, i)
	}
	var group sync.WaitGroup
	for i, l := range logs {
		group.Go(func() {
			for n := range 60 {
				l.Write(entriesOf([]fact{put(fmt.Sprint(i), great(n))}))
				l.Sync()
				l.Group(entriesOf([]fact{at(3, i, n), gone("lost")}))
				_, ends := l.Entries()
				l.Cut(ends[len(ends)-2])
				if n%10 == 9 {
					l.Trim(ends[len(ends)-4])
				}
			}
		})
	}
	group.Wait()
	for i, l := range logs {
		base, _, _ := l.Bounds()
		tells(t, fmt.Sprint("log ", i), l, stepsOf(base, put(fmt.Sprint(i), great(59)), at(3, i, 59)))
	}
}

// W0: a zero value and a copy go on without a panic; and every call with numbers of every greatness.
func TestNonePanics(t *testing.T) {
	p := lain(t, 5, few()...)
	other := *p.l
	var zero wal.Log
	for _, number := range []int{math.MinInt, -1 << 62, -1, 0, 1, 6, 1 << 62, math.MaxInt} {
		for _, l := range []*wal.Log{nil, &zero, p.l, &other} {
			for _, facts := range [][]fact{nil, few(), wrong(), {{kind: number, stamp: number, count: number}}, {at(3, number, number)}} {
				l.Write(entriesOf(facts))
				l.Group(entriesOf(facts))
			}
			l.Sync()
			l.Trim(number)
			l.Cut(number)
			l.Entries()
			l.Bounds()
		}
		wal.Open(p.d, number)
		wal.Open(nil, number)
		wal.Open(new(disk.Disk), number)
	}
}

// A long log is told in a time that grows with its length; and so are long bytes that are no entries.
func TestLongLog(t *testing.T) {
	var facts []fact
	for i := range 30000 {
		facts = append(facts, few()[i%len(few())])
	}
	d := loaded(t, api.Span{})
	l := logOf(t, d, 0)
	same(t, "Group", l.Group(entriesOf(facts)), api.OK)
	sameSteps(t, "a long log", told(t, "a long log", l), stepsOf(0, facts...))
	for _, text := range []string{"\x00", "\xc5", "\xc5\x00\x01\x00\x00"} {
		q := logOf(t, loaded(t, api.Span{Base: 1 << 62, Bytes: []byte(strings.Repeat(text, 1<<20))}), 0)
		same(t, "long bytes", len(told(t, "long bytes", q)), 0)
	}
}

// Limits: the greatest entries that may be are written and told, and are well within a frame; one more is refused.
func TestLimits(t *testing.T) {
	key, value := great(api.MaxKey), great(api.MaxValue)
	facts := []fact{put(key, value), gone(key), version(key, api.MaxStamp, value), dead(key, api.MaxStamp), at(3, api.MaxStamp, 1<<31-1), at(4, api.MaxStamp, 1<<31-1), at(6, api.MaxStamp, 1<<31-1)}
	p := blank(t)
	same(t, "Write", p.write(t, "at the limits", facts...), api.OK)
	same(t, "Group", p.group(t, "at the limits", facts...), api.OK)
	want := stepsOf(0, append(facts, facts...)...)
	tells(t, "at the limits", p.l, want)
	for i := range facts {
		size := want[i+1].end - want[i].end
		same(t, fmt.Sprint("a frame of ", size, " bytes"), size-9 < api.MaxPayload, true)
	}
	for _, f := range []fact{put(key+"k", value), put(key, value+"v"), gone(key + "k"), version(key, api.MaxStamp+1, value), at(3, 0, 1<<31)} {
		same(t, "Write", p.write(t, "one more", f), api.ErrEntry)
		same(t, "Group", p.group(t, "one more", f), api.ErrEntry)
	}
}

// The chapter's examples.
func TestExamples(t *testing.T) {
	d, _ := disk.New(1)
	w, c, x := api.Entry{Kind: api.EntryPut, Key: "k", Value: []byte{7}}, api.Entry{Kind: api.EntryCommit, Stamp: 1, Count: 1}, api.Entry{Kind: 9}
	_, code := wal.Open(nil, 0)
	same(t, "Open of no disk", code, api.ErrNil)
	_, code = wal.Open(d, 1)
	same(t, "Open of no area", code, api.ErrArea)
	l, code := wal.Open(d, 0)
	same(t, "Open", code, api.OK)
	wF, cF := factOf(w), factOf(c)
	shows := func(what string, bounds string, want ...step) {
		t.Helper()
		base, safe, end := l.Bounds()
		same(t, what+": Bounds", fmt.Sprint(base, safe, end), bounds)
		tells(t, what, l, want)
	}
	same(t, "Write(w)", l.Write([]api.Entry{w}), api.OK)
	shows("Write(w)", "0 0 14", step{wF, 14})
	b, _ := d.Read(0, 5, 5)
	same(t, "w's bytes", bytes.Equal(b, []byte{1, 2, 107, 2, 7}), true)
	same(t, "Group(c)", l.Group([]api.Entry{c}), api.OK)
	shows("Group(c)", "0 26 26", step{wF, 14}, step{cF, 26})
	b, _ = d.Read(0, 19, 3)
	same(t, "c's bytes", bytes.Equal(b, []byte{3, 2, 2}), true)
	same(t, "Group(w, x)", l.Group([]api.Entry{w, x}), api.ErrEntry)
	same(t, "Write(w, x)", l.Write([]api.Entry{w, x}), api.ErrEntry)
	shows("Write(w, x)", "0 26 40", step{wF, 14}, step{cF, 26}, step{wF, 40})
	d.Strike()
	shows("Strike", "0 26 26", step{wF, 14}, step{cF, 26})
	same(t, "Append", d.Append(0, []byte{1, 2, 3}), api.OK)
	same(t, "Write(w)", l.Write([]api.Entry{w}), api.OK)
	shows("behind 1 2 3", "0 26 43", step{wF, 14}, step{cF, 26})
	same(t, "Cut(26)", l.Cut(26), api.OK)
	same(t, "Trim(14)", l.Trim(14), api.OK)
	shows("Cut, Trim", "14 26 26", step{cF, 26})
	same(t, "Trim(27)", l.Trim(27), api.ErrRange)
	same(t, "Cut(13)", l.Cut(13), api.ErrRange)
	d.Arm([]api.Fate{{Done: 2, Keep: 99}})
	same(t, "Group(w, c)", l.Group([]api.Entry{w, c}), api.ErrDown)
	d.Strike()
	shows("kept", "14 52 52", step{cF, 26}, step{wF, 40}, step{cF, 52})
}
