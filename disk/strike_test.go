package disk_test

import (
	"fmt"
	"math"
	"testing"

	"cloister/api"
)

// P8.6: Arm with fewer fates than areas, as many, more, none: which fate each area has shows by its Done, and by what a Strike keeps.
func TestArm(t *testing.T) {
	all := []api.Fate{{Done: 1, Keep: 2, Torn: 1}, {Done: 2, Keep: 1, Torn: 2}, {Done: 3, Keep: 4, Torn: 4}, {Done: 4, Keep: 9, Torn: 8}, {Done: 5, Keep: 9, Torn: 16}}
	for count := range len(all) + 1 {
		for again := range 3 {
			what := fmt.Sprintf("%d fates, armed %d times", count, again+1)
			d, p := laid(t)
			for range again {
				both(t, what, d, p, call{kind: doArm, fates: all[len(all)-1:]})
				both(t, what, d, p, operations(0)...)
				both(t, what, d, p, operations(2)...)
			}
			both(t, what, d, p, call{kind: doArm, fates: all[:count]})
			holds(t, what, d, p)
			for i := range 3 {
				same(t, what+": Done", d.Done(i), 0)
				for range 6 {
					both(t, what, d, p, call{kind: doAppend, area: i, text: "abc"})
				}
			}
			holds(t, what+": behind Appends", d, p)
			both(t, what, d, p, call{kind: doStrike})
			holds(t, what+": behind a Strike", d, p)
		}
	}
}

// P8.6: said once more by hand: the zero fate where there is none, which carries nothing out and keeps nothing.
func TestArmByHand(t *testing.T) {
	d, _ := made(t, 3)
	for i := range 3 {
		same(t, "Append", d.Append(i, []byte("ab")), api.OK)
	}
	d.Arm([]api.Fate{{Done: 1, Keep: 3, Torn: 1}, {Done: 0, Keep: 1}})
	same(t, "Append", d.Append(0, []byte("cd")), api.OK)
	same(t, "down", d.Append(0, []byte("ef")), api.ErrDown)
	same(t, "down at once", d.Append(1, []byte("ef")), api.ErrDown)
	same(t, "the zero fate", d.Append(2, []byte("ef")), api.ErrDown)
	d.Strike()
	same(t, "Image", images(d), `0 "abb"; 0 "a"; 0 ""; `)
}

// P8.6: a disk that is armed anew has the new fates alone, and counts from 0.
func TestArmAnew(t *testing.T) {
	d, p := laid(t)
	both(t, "armed", d, p, call{kind: doArm, fates: []api.Fate{{Done: 2, Keep: 9, Torn: 9}, {Done: 2, Keep: 9}, {Done: 2, Keep: 9}}})
	both(t, "armed", d, p, operations(0)...)
	both(t, "armed", d, p, operations(2)...)
	same(t, "Done", d.Done(0), 2)
	both(t, "anew", d, p, call{kind: doArm, fates: []api.Fate{{Done: 3, Keep: 1}}})
	same(t, "Done anew", d.Done(0), 0)
	holds(t, "anew", d, p)
	both(t, "anew", d, p, operations(0)...)
	both(t, "anew", d, p, operations(1)...)
	both(t, "anew", d, p, operations(2)...)
	same(t, "Done anew", d.Done(0), 3)
	both(t, "anew", d, p, call{kind: doStrike})
	holds(t, "anew, struck", d, p)
	both(t, "with none", d, p, call{kind: doArm})
	for i := range 3 {
		both(t, "with none", d, p, operations(i)...)
	}
	holds(t, "with none", d, p)
}

// keeps is numbers of bytes to keep, of an area that has few.
func keeps() []int {
	return []int{math.MinInt, -most, -1, 0, 1, 2, 3, 4, 5, 99, most, math.MaxInt}
}

// P8.7, P8.13: Strike of a disk that is armed, with every fate: what is there behind it, that it is not armed, and that counts are 0.
func TestStrikeArmed(t *testing.T) {
	for _, keep := range keeps() {
		for _, torn := range []byte{0, 1, 0x80, 255} {
			for _, done := range []int{-1, 0, 1, 3, math.MaxInt} {
				what := fmt.Sprintf("Done %d, Keep %d, Torn %d", done, keep, torn)
				d, p := laid(t)
				fate := api.Fate{Done: done, Keep: keep, Torn: torn}
				both(t, what, d, p, call{kind: doArm, fates: []api.Fate{fate, fate, fate}})
				for i := range 3 {
					both(t, what, d, p, call{kind: doAppend, area: i, text: "x"}, call{kind: doAppend, area: i, text: "yz"})
				}
				both(t, what, d, p, call{kind: doStrike})
				holds(t, what+": struck", d, p)
				for i := range 3 {
					_, safe, end, _ := d.Bounds(i)
					same(t, what+": all is safe", safe, end)
					same(t, what+": Done", d.Done(i), 0)
				}
				both(t, what, d, p, call{kind: doStrike})
				holds(t, what+": struck again", d, p)
				notArmed(t, what, d, p)
			}
		}
	}
}

// P8.7: Strike of a disk that is not armed: never armed, or armed and struck; it keeps nothing that is loose.
func TestStrikeNotArmed(t *testing.T) {
	d, p := laid(t)
	both(t, "never armed", d, p, call{kind: doStrike})
	holds(t, "never armed", d, p)
	same(t, "never armed", images(d), `0 "safe"; 7 ""; 4611686018427387904 ""; `)
	fate := api.Fate{Done: 9, Keep: 9, Torn: 255}
	both(t, "armed", d, p, call{kind: doArm, fates: []api.Fate{fate, fate, fate}}, call{kind: doStrike})
	for i := range 3 {
		both(t, "no longer armed", d, p, call{kind: doAppend, area: i, text: "lost"})
		same(t, "Done", d.Done(i), 1)
	}
	both(t, "no longer armed", d, p, call{kind: doStrike})
	holds(t, "no longer armed", d, p)
	same(t, "no longer armed", images(d), `0 "safe"; 7 ""; 4611686018427387904 ""; `)
}

// P8.7, P8.13: what a Strike leaves, said once more by hand.
func TestStrikeByHand(t *testing.T) {
	for _, row := range []struct {
		keep int
		torn byte
		told string
	}{
		{math.MinInt, 255, `10 "safe"; `},
		{-1, 255, `10 "safe"; `},
		{0, 255, `10 "safe"; `},
		{1, 0, `10 "safel"; `},
		{1, 1, `10 "safem"; `},
		{2, 32, `10 "safelO"; `},
		{3, 0, `10 "safelos"; `},
		{3, 255, `10 "safelo\x8c"; `},
		{4, 1, `10 "safelor"; `},
		{math.MaxInt, 1, `10 "safelor"; `},
	} {
		d, _ := loaded(t, api.Span{Base: 10, Bytes: []byte("safe")})
		d.Append(0, []byte("los"))
		d.Arm([]api.Fate{{Keep: row.keep, Torn: row.torn}})
		d.Strike()
		same(t, fmt.Sprintf("Keep %d, Torn %d", row.keep, row.torn), images(d), row.told)
	}
}

// P8.7: each area is struck with the fate of its own.
func TestEachItsOwnFate(t *testing.T) {
	d, p := made(t, api.MaxLabels)
	var fates []api.Fate
	for i := range api.MaxLabels {
		both(t, "laid", d, p, call{kind: doAppend, area: i, text: "0123456789abcdefgh"})
		fates = append(fates, api.Fate{Done: i, Keep: api.MaxLabels - i, Torn: byte(i)})
	}
	both(t, "armed", d, p, call{kind: doArm, fates: fates})
	for i := range api.MaxLabels {
		for range api.MaxLabels {
			both(t, "armed", d, p, call{kind: doAppend, area: i, text: "+"})
		}
		same(t, "Done", d.Done(i), i)
	}
	both(t, "struck", d, p, call{kind: doStrike})
	holds(t, "struck", d, p)
	for i, span := range d.Image() {
		want := []byte("0123456789abcdefgh")[:api.MaxLabels-i]
		want[len(want)-1] ^= byte(i)
		same(t, "kept", string(span.Bytes), string(want))
	}
}

// P8.8: Image has the bases and the safe bytes alone, armed or not, behind every operation.
func TestImage(t *testing.T) {
	d, _ := made(t, 3)
	same(t, "new", images(d), `0 ""; 0 ""; 0 ""; `)
	d.Append(1, []byte("abcd"))
	same(t, "loose", images(d), `0 ""; 0 ""; 0 ""; `)
	d.Sync(1)
	d.Append(1, []byte("ef"))
	d.Append(2, []byte("z"))
	d.Sync(2)
	same(t, "safe", images(d), `0 ""; 0 "abcd"; 0 "z"; `)
	d.Arm([]api.Fate{{Done: 1}, {Done: 2, Keep: 99}})
	same(t, "armed", images(d), `0 ""; 0 "abcd"; 0 "z"; `)
	d.Trim(1, 3)
	d.Append(0, []byte("x"))
	same(t, "trimmed", images(d), `0 ""; 3 "d"; 0 "z"; `)
	d.Cut(1, 3)
	d.Sync(0)
	d.Sync(1)
	same(t, "cut, and down", images(d), `0 ""; 3 ""; 0 "z"; `)
	same(t, "Done is not touched", fmt.Sprint(d.Done(0), d.Done(1), d.Done(2)), "1 2 0")
}

// P8.8, P8.13: Load of the Image is the disk as a Strike that keeps nothing leaves it.
func TestLoadOfTheImage(t *testing.T) {
	d, p := laid(t)
	both(t, "armed", d, p, call{kind: doArm, fates: []api.Fate{{Done: 9, Torn: 3}, {Done: 1, Torn: 3}}})
	for i := range 3 {
		both(t, "armed", d, p, call{kind: doSync, area: i}, call{kind: doAppend, area: i, text: "on"})
	}
	again, _ := loaded(t, d.Image()...)
	both(t, "struck", d, p, call{kind: doStrike})
	holds(t, "struck", d, p)
	holds(t, "loaded", again, p)
}

// P8.13: of bytes without number as many are kept as the fate says.
func TestStrikeGreat(t *testing.T) {
	const size = 1 << 20
	loose := make([]byte, size)
	for i := range loose {
		loose[i] = byte(i * 7)
	}
	for _, keep := range []int{1, 255, 256, 65536, 65537, size - 1, size, size + 1} {
		d, _ := loaded(t, api.Span{Base: 9, Bytes: []byte("safe")}, api.Span{})
		same(t, "Append", d.Append(0, loose), api.OK)
		d.Arm([]api.Fate{{Keep: keep, Torn: 85}})
		d.Strike()
		want := append([]byte("safe"), loose[:min(keep, size)]...)
		want[len(want)-1] ^= 85
		image := d.Image()
		if image[0].Base != 9 || string(image[0].Bytes) != string(want) || len(image[1].Bytes) != 0 {
			t.Errorf("Keep %d of %d bytes: another Image, of %d bytes", keep, size, len(image[0].Bytes))
		}
	}
}
