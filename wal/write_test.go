package wal_test

import (
	"fmt"
	"slices"
	"testing"

	"cloister/api"
)

// bytesOf is all bytes of a log's area.
func bytesOf(p *pair) string {
	base, _, end := p.l.Bounds()
	b, _ := p.d.Read(p.area, base, end-base)
	return string(b)
}

// P11.2: of no entries nothing is done, and it is OK, even if the disk is down.
func TestWriteOfNone(t *testing.T) {
	for _, armed := range []bool{false, true} {
		p := lain(t, 3, few()...)
		if armed {
			p.arm(api.Fate{})
		}
		for _, none := range [][]api.Entry{nil, {}, entriesOf(few())[:0]} {
			same(t, "Write of none", p.l.Write(none), api.OK)
			p.holds(t, "Write of none")
		}
		same(t, "Done", p.d.Done(p.area), 0)
	}
}

// P11.2: of one entry, of each kind: its frame is appended, loose.
func TestWriteOfOne(t *testing.T) {
	for _, f := range few() {
		p := blank(t)
		same(t, "Write", p.write(t, "one", f), api.OK)
		same(t, "the bytes", bytesOf(p), framed(payloadOf(f)))
		base, safe, end := p.l.Bounds()
		same(t, "Bounds", [3]int{base, safe, end}, [3]int{0, 0, len(payloadOf(f)) + 9})
		tells(t, "one", p.l, stepsOf(0, f))
	}
}

// P11.2: of several, in their order, one behind the other, whatever lies ahead.
func TestWriteOfSeveral(t *testing.T) {
	backward := few()
	slices.Reverse(backward)
	p := blank(t)
	same(t, "Write", p.write(t, "several", few()...), api.OK)
	same(t, "the bytes", bytesOf(p), row(few()...))
	same(t, "Write", p.write(t, "more", backward...), api.OK)
	same(t, "the bytes", bytesOf(p), row(few()...)+row(backward...))
	tells(t, "both", p.l, stepsOf(0, append(few(), backward...)...))
	same(t, "Done", p.d.Done(p.area), 2*len(few()))
	p = lain(t, 100, few()[0])
	p.write(t, "behind one that is safe", few()...)
	tells(t, "behind one that is safe", p.l, stepsOf(100, append(few()[:1], few()...)...))
}

// with is entries with one of them put in at a place.
func with(facts []fact, place int, one fact) []fact {
	return slices.Insert(slices.Clone(facts), place, one)
}

// P11.2: an entry that may not be, at each place: what was ahead of it stays, what is behind it is not appended.
func TestWriteOfWrong(t *testing.T) {
	facts := few()[:4]
	for _, bad := range wrong() {
		for place := range len(facts) + 1 {
			p := lain(t, 2, few()[6])
			what := fmt.Sprint("a wrong one at ", place)
			same(t, what, p.write(t, what, with(facts, place, bad)...), api.ErrEntry)
			tells(t, what, p.l, stepsOf(2, append([]fact{few()[6]}, facts[:place]...)...))
			same(t, what+": Done", p.d.Done(p.area), place)
		}
	}
}

// P11.2: on a disk that is down: ErrDown, nothing is appended; but an entry that may not be is seen ahead of its Append.
func TestWriteDown(t *testing.T) {
	p := lain(t, 2, few()[6])
	p.arm(api.Fate{})
	before := diskTells(p.d)
	same(t, "down", p.write(t, "down", few()...), api.ErrDown)
	same(t, "down, with a wrong one behind", p.write(t, "down", few()[0], wrong()[0]), api.ErrDown)
	same(t, "down, with a wrong one ahead", p.write(t, "down", wrong()[0], few()[0]), api.ErrEntry)
	same(t, "the disk", diskTells(p.d), before)
}

// P11.2: on a disk that goes down in the midst: what was appended ahead of it stays, and whichever error comes first is told.
func TestWriteGoesDown(t *testing.T) {
	facts := few()[:5]
	for done := range len(facts) + 2 {
		p := lain(t, 0, few()[6])
		p.arm(api.Fate{Done: done})
		what := fmt.Sprint("down behind ", done)
		want := api.ErrDown
		if done >= len(facts) {
			want = api.OK
		}
		same(t, what, p.write(t, what, facts...), want)
		appended := min(done, len(facts))
		tells(t, what, p.l, stepsOf(0, append([]fact{few()[6]}, facts[:appended]...)...))
		for place := range len(facts) + 1 {
			p = lain(t, 0)
			p.arm(api.Fate{Done: done})
			want = api.ErrEntry
			if done < place {
				want = api.ErrDown
			}
			what = fmt.Sprint("down behind ", done, ", a wrong one at ", place)
			same(t, what, p.write(t, what, with(facts, place, wrong()[1])...), want)
			tells(t, what, p.l, stepsOf(0, facts[:min(done, place)]...))
		}
	}
}

// P11.3: Sync makes all bytes of its area safe, those of no other one, and is told as layer 8 tells it.
func TestSync(t *testing.T) {
	p := blank(t)
	for i := range 3 {
		p.d.Append(i, []byte("loose"))
		p.twin.Append(i, []byte("loose"))
	}
	same(t, "Sync", p.sync(t, "Sync"), api.OK)
	same(t, "Sync again", p.sync(t, "again"), api.OK)
	same(t, "Done", p.d.Done(p.area), 3)
	for done := range 3 {
		p = lain(t, 9, few()...)
		p.lay("loose")
		p.arm(api.Fate{Done: done})
		for n := range 3 {
			want := api.OK
			if n >= done {
				want = api.ErrDown
			}
			same(t, "Sync, armed", p.sync(t, "armed"), want)
		}
		p.strike(t, "synced or not")
	}
}

// numbersAround is every offset of a log's area, those beside it, and numbers of every greatness.
func numbersAround(p *pair) []int {
	base, _, end := p.l.Bounds()
	numbers := []int{-1 << 63, -1 << 62, -1, 0, 1, 1 << 32, 1 << 62, 1<<62 + 1, 1<<63 - 1}
	for offset := max(base-2, 0); offset <= end+2; offset++ {
		numbers = append(numbers, offset)
	}
	return numbers
}

// P11.3: Cut and Trim at every number, of an area with safe and with loose bytes, down or not.
func TestCutAndTrim(t *testing.T) {
	for _, base := range []int{0, 5, 1 << 62} {
		for _, done := range []int{0, 1, 9} {
			begin := func() *pair {
				p := lain(t, base, few()[0], few()[2])
				p.lay(row(few()[3], few()[4]) + "\xc5")
				p.arm(api.Fate{Done: done, Keep: 3, Torn: 1})
				return p
			}
			for _, number := range numbersAround(begin()) {
				p := begin()
				p.cut(t, "once", number)
				p.trim(t, "behind a Cut", number)
				p.strike(t, "behind Cut and Trim")
				p = begin()
				p.trim(t, "once", number)
				p.cut(t, "behind a Trim", number+3)
				p.strike(t, "behind Trim and Cut")
			}
		}
	}
}

// P11.3: the errors by hand.
func TestCutAndTrimErrors(t *testing.T) {
	p := lain(t, 5, few()[:2]...)
	first, end := stepsOf(5, few()[0])[0].end, 5+len(row(few()[:2]...))
	p.lay("loose")
	for _, number := range []int{-1, 4, end + 6} {
		same(t, "Cut outside", p.cut(t, "outside", number), api.ErrRange)
	}
	for _, number := range []int{-1, 4, end + 1, end + 5} {
		same(t, "Trim outside of what is safe", p.trim(t, "outside", number), api.ErrRange)
	}
	same(t, "Done", p.d.Done(p.area), 1)
	same(t, "Cut", p.cut(t, "the loose ones", end), api.OK)
	same(t, "Trim", p.trim(t, "the first one", first), api.OK)
	same(t, "Trim", p.trim(t, "all", end), api.OK)
	p.arm(api.Fate{})
	same(t, "Cut, down", p.cut(t, "down", end), api.ErrDown)
	same(t, "Cut outside, down", p.cut(t, "down", end+1), api.ErrDown)
	same(t, "Trim, down", p.trim(t, "down", end), api.ErrDown)
	same(t, "Trim outside, down", p.trim(t, "down", end+1), api.ErrDown)
}

// P11.4: a Group of entries that may all be: they are appended, and all bytes are safe, those that were loose ahead of them too.
func TestGroup(t *testing.T) {
	for n := range len(few()) + 1 {
		p := lain(t, 4, few()[2])
		p.write(t, "loose", few()[3])
		facts := append([]fact{few()[2], few()[3]}, few()[:n]...)
		same(t, "Group", p.group(t, "all may be", few()[:n]...), api.OK)
		tells(t, "Group", p.l, stepsOf(4, facts...))
		base, safe, end := p.l.Bounds()
		same(t, "Bounds", [3]int{base, safe, end}, [3]int{4, 4 + len(row(facts...)), 4 + len(row(facts...))})
		p.strike(t, "Group")
		tells(t, "Group, struck", p.l, stepsOf(4, facts...))
	}
}

// P11.4: a Group of no entries is a Sync.
func TestGroupOfNone(t *testing.T) {
	for _, none := range [][]api.Entry{nil, {}, entriesOf(few())[:0]} {
		p := blank(t)
		p.lay(row(few()...))
		same(t, "Group of none", p.l.Group(none), p.twin.Sync(p.area))
		p.holds(t, "Group of none")
		p.arm(api.Fate{})
		same(t, "Group of none, down", p.l.Group(none), api.ErrDown)
		p.holds(t, "Group of none, down")
	}
}

// P11.4: a Group with an entry that may not be, at each place: nothing is appended, nothing made safe, down or not.
func TestGroupOfWrong(t *testing.T) {
	facts := few()[:4]
	for _, bad := range wrong() {
		for place := range len(facts) + 1 {
			for _, armed := range []bool{false, true} {
				p := lain(t, 2, few()[6])
				p.lay("loose")
				if armed {
					p.arm(api.Fate{Done: place % 2})
				}
				before := diskTells(p.d)
				what := fmt.Sprint("a wrong one at ", place)
				same(t, what, p.group(t, what, with(facts, place, bad)...), api.ErrEntry)
				same(t, what+": the disk", diskTells(p.d), before)
			}
		}
	}
}

// P11.4: a Group on a disk that goes down in the midst: Write's error with what was appended, or Sync's.
func TestGroupGoesDown(t *testing.T) {
	facts := few()[:5]
	for done := range len(facts) + 3 {
		p := lain(t, 1, few()[6])
		_, before, _ := p.l.Bounds()
		p.arm(api.Fate{Done: done})
		want := api.ErrDown
		if done > len(facts) {
			want = api.OK
		}
		what := fmt.Sprint("down behind ", done)
		same(t, what, p.group(t, what, facts...), want)
		tells(t, what, p.l, stepsOf(1, append([]fact{few()[6]}, facts[:min(done, len(facts))]...)...))
		_, safe, end := p.l.Bounds()
		if want == api.OK {
			before = end
		}
		same(t, what+": safe", safe, before)
	}
}
