package disk_test

import (
	"fmt"
	"math"
	"math/rand"
	"sync"
	"testing"

	"cloister/api"
	"cloister/disk"
)

// All promises at once: rows of calls by chance.
func TestRowsByChance(t *testing.T) {
	for seed := range 300 {
		r := rand.New(rand.NewSource(int64(seed)))
		areas := 1 + r.Intn(4)
		if seed%10 == 0 {
			areas = api.MaxLabels
		}
		d, p := made(t, areas)
		for range 300 {
			both(t, fmt.Sprintf("row %d", seed), d, p, byChance(r, p))
			if t.Failed() {
				return
			}
		}
		holds(t, fmt.Sprintf("behind row %d", seed), d, p)
	}
}

// beside does calls by chance at every area, each area's from a goroutine of its own, all at the same time.
func beside(t *testing.T, what string, seed int64, d *disk.Disk, p *paper) {
	t.Helper()
	var group sync.WaitGroup
	begin := make(chan struct{})
	for i := range p.sheets {
		group.Add(1)
		go func() {
			defer group.Done()
			r := rand.New(rand.NewSource(seed + int64(i)))
			<-begin
			for n := range 1500 {
				both(t, fmt.Sprintf("%s, area %d, call %d", what, i, n), d, p, ofArea(r, i, p.sheets[i]))
				if t.Failed() {
					return
				}
			}
		}()
	}
	close(begin)
	group.Wait()
	holds(t, what, d, p)
}

// P8.10: calls of unlike areas from unlike goroutines, not armed, armed with fates that end in the midst of it, and not armed again.
func TestBesideOneAnother(t *testing.T) {
	for seed := range int64(4) {
		d, p := made(t, api.MaxLabels)
		beside(t, "not armed", 1000*seed, d, p)
		r := rand.New(rand.NewSource(seed))
		fates := make([]api.Fate, api.MaxLabels)
		for i := range fates {
			fates[i] = api.Fate{Done: r.Intn(1200), Keep: r.Intn(50), Torn: byte(r.Intn(256))}
		}
		both(t, "armed", d, p, call{kind: doArm, fates: fates})
		beside(t, "armed", 1000*seed+100, d, p)
		both(t, "struck", d, p, call{kind: doStrike})
		beside(t, "struck", 1000*seed+200, d, p)
	}
}

// P8.10: no operation is lost from a count, nor any byte from an area.
func TestNothingLostBeside(t *testing.T) {
	const times = 20000
	d, _ := made(t, api.MaxLabels)
	var group sync.WaitGroup
	for i := range api.MaxLabels {
		group.Add(1)
		go func() {
			defer group.Done()
			for n := range times {
				d.Append(i, []byte{byte(i), byte(n)})
			}
			d.Sync(i)
		}()
	}
	group.Wait()
	for i := range api.MaxLabels {
		for n := range times {
			if b, _ := d.Read(i, 2*n, 2); string(b) != string([]byte{byte(i), byte(n)}) {
				t.Fatalf("area %d: %q at %d", i, b, 2*n)
			}
		}
		same(t, "Done", d.Done(i), times+1)
	}
}

// ownCall is the call as an area on a disk of its own is asked it, with other fates for all others; false, if it is a call of another area.
func ownCall(r *rand.Rand, c call, i int) (call, bool) {
	switch c.kind {
	case doStrike, doImage:
		return c, true
	case doArm:
		own := api.Fate{}
		if i < len(c.fates) {
			own = c.fates[i]
		}
		fates := fatesBy(r, 6)
		for len(fates) <= i {
			fates = append(fates, fateBy(r))
		}
		fates[i] = own
		return call{kind: doArm, fates: fates}, true
	}
	return c, c.area == i
}

// ofOne is the area's part of an answer.
func ofOne(c call, d *disk.Disk, i int) string {
	if c.kind == doImage {
		return fmt.Sprintf("%d %q", d.Image()[i].Base, d.Image()[i].Bytes)
	}
	return c.ask(d)
}

// P8.11: an area's answers are the same if no call of another area is made, and the others have other fates; and on a disk on which it is alone.
func TestApart(t *testing.T) {
	for seed := range 60 {
		r := rand.New(rand.NewSource(int64(seed)))
		const areas = 4
		d, p := made(t, areas)
		var lone, single [areas]*disk.Disk
		for i := range areas {
			lone[i], _ = made(t, areas)
			single[i], _ = made(t, 1)
		}
		for n := range 300 {
			c := byChance(r, p)
			c.want(p)
			what := fmt.Sprintf("row %d, call %d: %v", seed, n, c)
			answers := c.ask(d)
			for i := range areas {
				own, is := ownCall(r, c, i)
				if !is {
					continue
				}
				told := ofOne(own, lone[i], i)
				if own.kind == doArm {
					own.fates = own.fates[i:]
				}
				own.area = 0
				same(t, what+", on a disk of its own", ofOne(own, single[i], 0), told)
				if c.kind == doImage {
					same(t, what+", alone", told, ofOne(c, d, i))
				} else {
					same(t, what+", alone", told, answers)
				}
			}
			if t.Failed() {
				return
			}
		}
	}
}

// P8.12: just the first Done operations that the area would take are carried out. A twin that is not armed is asked what it would take, and is done just those to.
func TestFirstDone(t *testing.T) {
	for seed := range 200 {
		r := rand.New(rand.NewSource(int64(seed)))
		d, _ := made(t, 2)
		twin, p := made(t, 2)
		for range 5 {
			fate := fateBy(r)
			if r.Intn(9) == 0 {
				fate.Done = []int{math.MinInt, math.MaxInt}[r.Intn(2)]
			}
			d.Arm([]api.Fate{{Done: r.Intn(5)}, fate})
			taken := 0
			for range 25 {
				c := ofArea(r, 1, p.sheets[1])
				if c.kind > doTrim {
					continue
				}
				want := fmt.Sprint(api.ErrDown)
				if taken < max(fate.Done, 0) {
					c.want(p)
					want = c.ask(twin)
				}
				same(t, "answer", c.ask(d), want)
				if want == fmt.Sprint(api.OK) {
					taken++
				}
				same(t, "count", d.Done(1), taken)
				told := call{kind: doBounds, area: 1}
				same(t, "Bounds", told.ask(d), told.ask(twin))
			}
			if fate.Done != math.MaxInt && d.Done(1) > max(fate.Done, 0) {
				t.Errorf("Done %d: the count is %d", fate.Done, d.Done(1))
			}
			s := p.sheets[1]
			whole := call{kind: doRead, area: 1, at: s.base, n: len(s.all())}
			same(t, "bytes", whole.ask(d), whole.ask(twin))
		}
	}
}

// P8.13: what is there behind a Strike, by what was told ahead of it.
func TestStruck(t *testing.T) {
	for seed := range 300 {
		r := rand.New(rand.NewSource(int64(seed)))
		d, p := made(t, 3)
		for range 8 {
			fates := []api.Fate{fateBy(r), fateBy(r), fateBy(r)}
			both(t, "armed", d, p, call{kind: doArm, fates: fates})
			for range 20 {
				i := r.Intn(3)
				both(t, "armed", d, p, ofArea(r, i, p.sheets[i]))
			}
			var want [3]string
			for i, fate := range fates {
				base, safe, end, _ := d.Bounds(i)
				stays, _ := d.Read(i, base, safe-base)
				kept, _ := d.Read(i, safe, min(max(fate.Keep, 0), end-safe))
				if len(kept) > 0 {
					kept[len(kept)-1] ^= fate.Torn
				}
				all := string(stays) + string(kept)
				want[i] = fmt.Sprintf("%d %d %d %q", base, base+len(all), base+len(all), all)
			}
			both(t, "struck", d, p, call{kind: doStrike})
			for i := range fates {
				base, safe, end, _ := d.Bounds(i)
				all, _ := d.Read(i, base, end-base)
				same(t, "struck", fmt.Sprintf("%d %d %d %q", base, safe, end, all), want[i])
			}
		}
	}
}

// P8.14: bytes that are safe are there behind every Strike, at their offsets, unless they were cut or trimmed.
func TestSafeStays(t *testing.T) {
	for seed := range 200 {
		r := rand.New(rand.NewSource(int64(seed)))
		d, p := made(t, 1)
		safe := map[int]byte{}
		for n := range 200 {
			c := byChance(r, p)
			c.want(p)
			told := c.ask(d)
			base, upTo, _, _ := d.Bounds(0)
			switch {
			case c.area != 0 || c.kind <= doTrim && told != fmt.Sprint(api.OK):
			case c.kind == doSync:
				b, _ := d.Read(0, base, upTo-base)
				for i, value := range b {
					safe[base+i] = value
				}
			case c.kind == doCut:
				takeAway(safe, func(at int) bool { return at >= c.at })
			case c.kind == doTrim:
				takeAway(safe, func(at int) bool { return at < c.at })
			}
			image := d.Image()[0]
			for at, value := range safe {
				if i := at - image.Base; i < 0 || i >= len(image.Bytes) || image.Bytes[i] != value {
					t.Fatalf("row %d, behind call %d (%v): the safe byte at %d is not there", seed, n, c, at)
				}
			}
		}
	}
}

// takeAway takes the bytes away whose offsets a choice takes.
func takeAway(bytes map[int]byte, takes func(at int) bool) {
	for at := range bytes {
		if takes(at) {
			delete(bytes, at)
		}
	}
}
