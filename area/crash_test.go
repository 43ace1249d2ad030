package area_test

import (
	"math"
	"testing"

	"cloister/api"
	"cloister/area"
)

// keeps is numbers of bytes that a loss of power may be told to keep: below 1, up to some more than any small area has, far beyond.
func keeps() []int {
	all := []int{math.MinInt, math.MinInt + 1, -most, -3, -2, -1, 1 << 31, most, math.MaxInt - 1, math.MaxInt}
	for keep := range 9 {
		all = append(all, keep)
	}
	return all
}

// P7.7: Crash with every number to keep and many bytes to tear with.
func TestCrash(t *testing.T) {
	shapes(t, func(what string, make func() (*area.Area, *paper)) {
		for _, keep := range keeps() {
			for _, torn := range []byte{0, 1, 2, 127, 128, 255} {
				a, p := make()
				same(t, what+": Crash", a.Crash(keep, torn), p.crash(keep, torn))
				holds(t, what+": behind a Crash", a, p)
				same(t, what+": Append behind a Crash", a.Append([]byte("new")), p.lay("new"))
				holds(t, what+": behind an Append behind a Crash", a, p)
				same(t, what+": another Crash", a.Crash(1, torn), p.crash(1, torn))
				holds(t, what+": behind another Crash", a, p)
			}
		}
	})
}

// P7.7: what a Crash leaves, said once more by hand; all of it is safe.
func TestCrashByHand(t *testing.T) {
	for _, row := range []struct {
		keep int
		torn byte
		told string
	}{
		{math.MinInt, 255, `10 14 14, 10 "safe"`},
		{-1, 255, `10 14 14, 10 "safe"`},
		{0, 255, `10 14 14, 10 "safe"`},
		{1, 0, `10 15 15, 10 "safel"`},
		{1, 1, `10 15 15, 10 "safem"`},
		{2, 32, `10 16 16, 10 "safelO"`},
		{3, 0, `10 17 17, 10 "safelos"`},
		{3, 255, `10 17 17, 10 "safelo\x8c"`},
		{4, 1, `10 17 17, 10 "safelor"`},
		{math.MaxInt, 1, `10 17 17, 10 "safelor"`},
	} {
		a, _ := laid(t, 10, "safe", "los")
		same(t, "Crash", a.Crash(row.keep, row.torn), api.OK)
		same(t, "behind it", told(a), row.told)
	}
}

// P7.7: the last byte is torn by every byte.
func TestTornByEveryByte(t *testing.T) {
	for torn := range 256 {
		for _, last := range []byte{0, 1, 0x55, 0xff} {
			a, _ := laid(t, 0, "s", string([]byte{9, last, 9}))
			same(t, "Crash", a.Crash(2, byte(torn)), api.OK)
			sameRead(t, "torn", a, 0, 3, string([]byte{'s', 9, last ^ byte(torn)}), api.OK)
		}
	}
}

// P7.7, P7.12: of an area without loose bytes a Crash changes nothing, whatever it is told.
func TestCrashWithoutLooseBytes(t *testing.T) {
	for _, base := range []int{0, 3, most} {
		for safe := range 5 {
			a, p := laid(t, base, "safe"[:safe], "")
			for _, keep := range keeps() {
				for _, torn := range []byte{0, 1, 255} {
					same(t, "Crash", a.Crash(keep, torn), api.OK)
					holds(t, "without loose bytes", a, p)
				}
			}
		}
	}
}

// P7.12: what a Crash leaves is the safe bytes and a beginning of the loose ones, all but the last byte of which is as it was.
func TestCrashLeavesABeginning(t *testing.T) {
	shapes(t, func(what string, make func() (*area.Area, *paper)) {
		for _, keep := range keeps() {
			a, p := make()
			base, safe, end := a.Bounds()
			before := p.text(func(cell) bool { return true })
			a.Crash(keep, 0xa5)
			nowBase, nowSafe, now := a.Bounds()
			same(t, what+": the base", nowBase, base)
			same(t, what+": all is safe", nowSafe, now)
			if now < safe || now > end {
				t.Errorf("%s: Crash(%d) leaves bytes up to %d", what, keep, now)
				continue
			}
			sure := max(safe, now-1)
			sameRead(t, what+": as it was", a, base, sure-base, before[:sure-base], api.OK)
			if now > safe {
				sameRead(t, what+": the torn one", a, now-1, 1, string([]byte{before[now-1-base] ^ 0xa5}), api.OK)
			}
		}
	})
}

// P7.12: a second Crash changes nothing, whatever it is told.
func TestCrashTwice(t *testing.T) {
	shapes(t, func(what string, make func() (*area.Area, *paper)) {
		for _, keep := range keeps() {
			a, p := make()
			same(t, what+": Crash", a.Crash(keep, 17), p.crash(keep, 17))
			for _, second := range keeps() {
				same(t, what+": a second Crash", a.Crash(second, 23), api.OK)
				holds(t, what+": behind a second Crash", a, p)
			}
		}
	})
}

// P7.12: Load of the Image is the area as a Crash that keeps nothing leaves it, then and behind further calls.
func TestLoadOfTheImage(t *testing.T) {
	shapes(t, func(what string, make func() (*area.Area, *paper)) {
		for _, keep := range []int{0, -1, math.MinInt} {
			a, p := make()
			b, code := area.Load(a.Image())
			same(t, what+": Load", code, api.OK)
			same(t, what+": Crash", a.Crash(keep, 99), p.crash(keep, 99))
			holds(t, what+": loaded", b, p)
			holds(t, what+": struck", a, p)
			p.lay("on")
			for _, one := range []*area.Area{a, b} {
				same(t, what+": Append", one.Append([]byte("on")), api.OK)
				holds(t, what+": goes on", one, p)
			}
		}
	})
}
