package wal_test

import (
	"fmt"
	"math"
	"math/rand"
	"slices"
	"strings"
	"testing"

	"cloister/api"
)

// P11.8: of an area that was empty all that was written is told, in that order, and the last one ends at End.
func TestWrittenIsTold(t *testing.T) {
	r := rand.New(rand.NewSource(118))
	for n := range 300 {
		p := blank(t)
		if n%3 == 0 {
			p = lain(t, r.Intn(1<<40))
		}
		base, _, _ := p.l.Bounds()
		var all []fact
		for range r.Intn(12) {
			facts := factsBy(r, 5)
			all = append(all, facts...)
			call := p.write
			if r.Intn(2) == 0 {
				call = p.group
			}
			same(t, "written", call(t, "a row", facts...), api.OK)
		}
		want := stepsOf(base, all...)
		tells(t, "written", p.l, want)
		_, _, end := p.l.Bounds()
		if len(want) > 0 {
			base = want[len(want)-1].end
		}
		same(t, "the last one ends", base, end)
	}
}

// keptOf is how many of new entries are whole behind a loss of power, if so many were appended, and the fate is this one.
func keptOf(facts []fact, fate api.Fate) int {
	loose := len(row(facts...))
	kept := min(max(fate.Keep, 0), loose)
	if kept > 0 && fate.Torn != 0 {
		kept-- // the last byte is another one: the entry that it is of is none
	}
	whole := 0
	for _, s := range stepsOf(0, facts...) {
		if s.end <= kept {
			whole++
		}
	}
	return whole
}

// struck holds what is told behind a loss of power in the midst of a Write or a Group of new entries behind old ones, all safe.
func struck(t *testing.T, old, facts []fact, grouped bool, fate api.Fate) {
	t.Helper()
	const base = 6
	what := fmt.Sprintf("%d old ones, %d new ones, grouped %v, %+v", len(old), len(facts), grouped, fate)
	p := lain(t, base, old...)
	p.arm(fate)
	appended := min(max(fate.Done, 0), len(facts))
	safe := grouped && fate.Done > len(facts)
	want := api.OK
	if appended < len(facts) || grouped && !safe {
		want = api.ErrDown
	}
	call, kept := p.write, keptOf(facts[:appended], fate)
	if grouped {
		call = p.group
	}
	if safe {
		kept = len(facts)
	}
	same(t, what, call(t, what, facts...), want)
	p.strike(t, what)
	tells(t, what, p.l, stepsOf(base, slices.Concat(old, facts[:kept])...))
}

// P11.9: a loss of power in the midst of a Write and of a Group, at every operation, with every number of bytes kept, the last one torn or not.
func TestLossAtEveryOperation(t *testing.T) {
	facts := []fact{few()[0], few()[3], few()[7]}
	for _, old := range [][]fact{nil, few()[:2]} {
		for _, grouped := range []bool{false, true} {
			for done := -1; done <= len(facts)+2; done++ {
				for keep := -1; keep <= len(row(facts...))+1; keep++ {
					for _, torn := range []byte{0, 1, 16, 128, 255} {
						struck(t, old, facts, grouped, api.Fate{Done: done, Keep: keep, Torn: torn})
					}
				}
			}
		}
	}
}

// P11.9: every byte that the last one kept may be torn by, at every place of an entry.
func TestEveryTearing(t *testing.T) {
	for _, f := range []fact{few()[0], few()[3]} {
		for keep := 1; keep <= len(row(f)); keep++ {
			for torn := range 256 {
				struck(t, few()[:1], []fact{f}, true, api.Fate{Done: 1, Keep: keep, Torn: byte(torn)})
			}
		}
	}
}

// P11.9: fates of the greatest numbers, and none.
func TestGreatestFates(t *testing.T) {
	for _, done := range []int{math.MinInt, -1, 0, 1, 2, 3, math.MaxInt} {
		for _, keep := range []int{math.MinInt, -1, 0, 1, math.MaxInt} {
			for _, grouped := range []bool{false, true} {
				struck(t, few()[:2], few()[2:4], grouped, api.Fate{Done: done, Keep: keep, Torn: 7})
				struck(t, few()[:2], nil, grouped, api.Fate{Done: done, Keep: keep, Torn: 7})
			}
		}
	}
	p := lain(t, 0, few()...)
	p.write(t, "not armed", few()...)
	p.strike(t, "not armed")
	tells(t, "not armed", p.l, stepsOf(0, few()...))
}

// P11.9: losses by chance, one behind the other: what is left is made the log again each time.
func TestLossesByChance(t *testing.T) {
	r := rand.New(rand.NewSource(119))
	for range 1500 {
		facts := factsBy(r, 6)
		fate := api.Fate{Done: r.Intn(len(facts) + 3), Keep: r.Intn(len(row(facts...)) + 2), Torn: byte(r.Intn(256) * r.Intn(2))}
		struck(t, factsBy(r, 4), facts, r.Intn(2) == 0, fate)
		if t.Failed() {
			return
		}
	}
}

// P11.9: a loss at an area leaves the logs of the others as their own fates say.
func TestLossOfOthers(t *testing.T) {
	d := loaded(t, make([]api.Span, 3)...)
	fates := []api.Fate{{Done: 9}, {Done: 2, Keep: 20, Torn: 0}, {}}
	d.Arm(fates)
	for i, want := range []api.Errno{api.OK, api.ErrDown, api.ErrDown} {
		same(t, "Group", logOf(t, d, i).Group(entriesOf([]fact{few()[0], few()[3]})), want)
	}
	d.Strike()
	tells(t, "all of it", logOf(t, d, 0), stepsOf(0, few()[0], few()[3]))
	tells(t, "the first one", logOf(t, d, 1), stepsOf(0, few()[0]))
	tells(t, "nothing", logOf(t, d, 2), nil)
}

// endsOf is Base and the end of each entry of a row that begins there.
func endsOf(base int, facts []fact) []int {
	ends := []int{base}
	for _, s := range stepsOf(base, facts...) {
		ends = append(ends, s.end)
	}
	return ends
}

// P11.10: Cut at the end of each entry and at Base leaves just those up to it, safe or loose, with bytes behind or without.
func TestCutAtEnds(t *testing.T) {
	for _, base := range []int{0, 33} {
		for safe := range len(few()) + 1 {
			for n, end := range endsOf(base, few()) {
				for _, tail := range []string{"", "\xc5\x00", "junk"} {
					p := lain(t, base, few()[:safe]...)
					p.lay(row(few()[safe:]...) + tail)
					same(t, "Cut", p.cut(t, "at an end", end), api.OK)
					tells(t, "Cut", p.l, stepsOf(base, few()[:n]...))
					_, _, last := p.l.Bounds()
					same(t, "End", last, end)
					p.group(t, "behind a Cut", few()[4])
					tells(t, "behind a Cut", p.l, stepsOf(base, append(few()[:n], few()[4])...))
				}
			}
		}
	}
}

// P11.10: Trim to the end of each entry that is safe leaves just those behind it, and each ends where it ended; further ones are refused.
func TestTrimToEnds(t *testing.T) {
	for _, base := range []int{0, 33} {
		all := stepsOf(base, few()...)
		for safe := range len(few()) + 1 {
			for n, end := range endsOf(base, few()) {
				p := lain(t, base, few()[:safe]...)
				p.lay(row(few()[safe:]...))
				if n > safe {
					same(t, "Trim beyond what is safe", p.trim(t, "beyond", end), api.ErrRange)
					tells(t, "Trim beyond what is safe", p.l, all)
					continue
				}
				same(t, "Trim", p.trim(t, "to an end", end), api.OK)
				tells(t, "Trim", p.l, all[n:])
				p.strike(t, "behind a Trim")
				tells(t, "Trim, struck", p.l, all[n:safe])
			}
		}
	}
}

// P11.10: Cut and Trim, one behind the other, at each two ends.
func TestCutThenTrim(t *testing.T) {
	all, ends := stepsOf(7, few()...), endsOf(7, few())
	for to := range ends {
		for from := range to + 1 {
			p := lain(t, 7, few()...)
			p.cut(t, "first", ends[to])
			p.trim(t, "then", ends[from])
			tells(t, "Cut, then Trim", p.l, all[from:to])
			p = lain(t, 7, few()...)
			p.trim(t, "first", ends[from])
			p.cut(t, "then", ends[to])
			tells(t, "Trim, then Cut", p.l, all[from:to])
		}
	}
}

// P11.11: bytes behind the entries, the first of which is each but 197: nothing changes, and entries behind them are not told, until they are cut off.
func TestLooseBytesDoNoHarm(t *testing.T) {
	want := stepsOf(2, few()[:3]...)
	for first := range 256 {
		if first == 197 {
			continue
		}
		for _, rest := range []string{"", "\x00", row(few()[0]), row(few()[0])[1:], strings.Repeat("\xc5", 20)} {
			p := lain(t, 2, few()[:3]...)
			p.lay(string([]byte{byte(first)}) + rest)
			tells(t, "bytes behind", p.l, want)
			same(t, "Write", p.write(t, "behind such bytes", few()...), api.OK)
			tells(t, "entries behind such bytes", p.l, want)
			same(t, "Group", p.group(t, "behind such bytes", few()...), api.OK)
			p.strike(t, "behind such bytes")
			tells(t, "entries behind such bytes, safe", p.l, want)
			p.cut(t, "them off", want[2].end)
			p.write(t, "behind the entries again", few()[3])
			tells(t, "cut off", p.l, stepsOf(2, few()[:4]...))
		}
	}
}

// P11.12: Done of the area: n more of a Write of n entries, n and one of a Group, and none at any other area.
func TestHowMuchIsDone(t *testing.T) {
	for n := range len(few()) + 1 {
		p := blank(t)
		for times := 1; times <= 3; times++ {
			p.write(t, "counted", few()[:n]...)
			same(t, "Write", p.d.Done(p.area), n*times+(n+1)*(times-1))
			p.group(t, "counted", few()[:n]...)
			same(t, "Group", p.d.Done(p.area), (2*n+1)*times)
		}
		p.l.Entries()
		p.l.Bounds()
		same(t, "Entries, Bounds", p.d.Done(p.area), (2*n+1)*3)
		p.sync(t, "counted")
		p.cut(t, "counted", 0)
		p.trim(t, "counted", 0)
		same(t, "Sync, Cut, Trim", p.d.Done(p.area), (2*n+1)*3+3)
		same(t, "the others", p.d.Done(0)+p.d.Done(2), 0)
	}
}

// call does one call by chance to a log and its second disk.
func call(t *testing.T, r *rand.Rand, p *pair) {
	t.Helper()
	base, _, end := p.l.Bounds()
	offset := base - 1 + r.Intn(end-base+3)
	if ends := endsOf(base, nil); r.Intn(2) == 0 {
		for _, s := range told(t, "by chance", p.l) {
			ends = append(ends, s.end)
		}
		offset = ends[r.Intn(len(ends))]
	}
	facts := factsBy(r, 4)
	if r.Intn(5) == 0 {
		facts = with(facts, r.Intn(len(facts)+1), wrong()[r.Intn(len(wrong()))])
	}
	switch r.Intn(10) {
	case 0, 1:
		p.write(t, "by chance", facts...)
	case 2, 3:
		p.group(t, "by chance", facts...)
	case 4:
		p.sync(t, "by chance")
	case 5:
		p.cut(t, "by chance", offset)
	case 6:
		p.trim(t, "by chance", offset)
	case 7:
		p.lay(by(r, r.Intn(3)))
	case 8:
		p.arm(api.Fate{Done: r.Intn(12), Keep: r.Intn(200), Torn: byte(r.Intn(256) * r.Intn(2))})
	default:
		p.strike(t, "by chance")
	}
}

// All promises at once: rows of calls by chance.
func TestRowsByChance(t *testing.T) {
	for seed := range 150 {
		r := rand.New(rand.NewSource(int64(seed)))
		p := blank(t)
		for range 120 {
			call(t, r, p)
			if t.Failed() {
				t.Fatalf("row %d", seed)
			}
		}
	}
}
