package entry_test

import (
	"fmt"
	"math"
	"math/rand"
	"strings"
	"testing"

	"cloister/api"
	"cloister/entry"
)

// P10.1: an entry of each Kind may be; of a Kind that is none, none may, whichever fields it has.
func TestCheckKinds(t *testing.T) {
	for _, f := range few() {
		same(t, fmt.Sprintf("Check of %+v", f), entry.Check(f.entryOf()), api.OK)
		for _, kind := range []int{0, -1, -2, 7, 8, 9, 127, 128, 255, 256, f.kind + 256, f.kind - 256, f.kind + 1<<16, f.kind + 1<<32, -f.kind, math.MinInt, math.MaxInt} {
			other := f
			other.kind = kind
			same(t, fmt.Sprintf("Check of %+v", other), entry.Check(other.entryOf()), api.ErrEntry)
			sameCheck(t, "no kind", other)
		}
	}
	for kind := -300; kind < 300; kind++ {
		sameCheck(t, "a kind alone", fact{kind: kind})
		sameCheck(t, "a kind with a key", fact{kind: kind, key: "k"})
		sameCheck(t, "a kind with numbers", fact{kind: kind, stamp: 1, count: 1})
	}
}

// P10.1: keys of no byte, one, the most, and more, of each kind that has one.
func TestCheckKeys(t *testing.T) {
	for _, n := range []int{0, 1, 2, 127, 128, 254, 255, 256, 257, 511, 512, 65536, 1 << 20} {
		want := api.OK
		if n < 1 || n > api.MaxKey {
			want = api.ErrEntry
		}
		for _, key := range []string{great(n), strings.Repeat("\x00", n), strings.Repeat("\xff", n)} {
			for _, f := range []fact{put(key, "a"), put(key, ""), gone(key), version(key, 1, "a"), dead(key, 1)} {
				same(t, fmt.Sprintf("a key of %d bytes, kind %d", n, f.kind), entry.Check(f.entryOf()), want)
				sameCheck(t, "a key", f)
			}
		}
	}
	for x := range 256 {
		sameCheck(t, "a key of one byte", gone(string([]byte{byte(x)})))
	}
	same(t, "a key of 255 bytes that are fewer letters", entry.Check(gone(strings.Repeat("é", 127)+"k").entryOf()), api.OK)
	same(t, "a key of 128 letters, 256 bytes", entry.Check(gone(strings.Repeat("é", 128)).entryOf()), api.ErrEntry)
}

// P10.1: values of no byte up to the most, and more; none at all of a Dead one.
func TestCheckValues(t *testing.T) {
	for _, n := range []int{0, 1, 2, 4095, 4096, 4097, 4098, 8192, 65536, 1 << 20} {
		want := api.OK
		if n > api.MaxValue {
			want = api.ErrEntry
		}
		value := great(n)
		same(t, fmt.Sprint("put, a value of ", n), entry.Check(put("k", value).entryOf()), want)
		same(t, fmt.Sprint("version, a value of ", n), entry.Check(version("k", 1, value).entryOf()), want)
		if n > 0 {
			want = api.ErrEntry
		}
		same(t, fmt.Sprint("dead, a value of ", n), entry.Check(fact{kind: 5, key: "k", value: value, dead: true}.entryOf()), want)
		sameCheck(t, "a value", put("k", value))
		sameCheck(t, "a version's value", version("k", 1, value))
		sameCheck(t, "a dead one's value", fact{kind: 5, key: "k", value: value, dead: true})
	}
	for _, value := range [][]byte{nil, {}, make([]byte, 0, 9)} {
		for _, kind := range []int{1, 2, 5} {
			same(t, "an empty value", entry.Check(api.Entry{Kind: kind, Key: "k", Value: value}), api.OK)
		}
		same(t, "an empty value of a dead one", entry.Check(api.Entry{Kind: 5, Key: "k", Value: value, Dead: true}), api.OK)
		same(t, "an empty value of a commit", entry.Check(api.Entry{Kind: 3, Value: value}), api.OK)
	}
}

// P10.1: a stamp is from 0 to MaxStamp, of each kind that has one.
func TestCheckStamps(t *testing.T) {
	for _, n := range append(stamps(), wrongNumbers()...) {
		want := api.OK
		if n < 0 || n > api.MaxStamp {
			want = api.ErrEntry
		}
		for _, f := range []fact{at(3, n, 1), at(4, n, 1), at(6, n, 1), version("k", n, "a"), dead("k", n)} {
			same(t, fmt.Sprintf("the stamp of %+v", f), entry.Check(f.entryOf()), want)
			sameCheck(t, "a stamp", f)
		}
	}
}

// P10.1: a count is from 0 to 2^31 - 1, of each kind that has one.
func TestCheckCounts(t *testing.T) {
	for _, n := range append(append(counts(), wrongNumbers()...), 1<<31, 1<<31+1, 1<<32-1, 1<<32, 1<<32+1, 1<<62) {
		want := api.OK
		if n < 0 || n > 1<<31-1 {
			want = api.ErrEntry
		}
		for _, f := range []fact{at(3, 1, n), at(4, 1, n), at(6, 1, n)} {
			same(t, fmt.Sprintf("the count of %+v", f), entry.Check(f.entryOf()), want)
			sameCheck(t, "a count", f)
		}
	}
}

// P10.1: each field that does not count must be zero.
func TestCheckFieldsThatDoNotCount(t *testing.T) {
	for _, f := range few() {
		counts := orderOf(f.kind)
		for _, n := range []int{1, -1, 5, 256, 1 << 32, math.MinInt, math.MaxInt} {
			if !strings.Contains(counts, "S") {
				other := f
				other.stamp = n
				same(t, fmt.Sprintf("a stamp: %+v", other), entry.Check(other.entryOf()), api.ErrEntry)
			}
			if !strings.Contains(counts, "C") {
				other := f
				other.count = n
				same(t, fmt.Sprintf("a count: %+v", other), entry.Check(other.entryOf()), api.ErrEntry)
			}
		}
		for _, text := range []string{"\x00", "k", great(256)} {
			if !strings.Contains(counts, "K") {
				other := f
				other.key = text
				same(t, fmt.Sprintf("a key: %+v", other), entry.Check(other.entryOf()), api.ErrEntry)
			}
			if !strings.Contains(counts, "V") {
				other := f
				other.value = text
				same(t, fmt.Sprintf("a value: %+v", other), entry.Check(other.entryOf()), api.ErrEntry)
			}
		}
		if !strings.Contains(counts, "D") {
			other := f
			other.dead, other.value = true, ""
			same(t, fmt.Sprintf("dead: %+v", other), entry.Check(other.entryOf()), api.ErrEntry)
		}
	}
}

// P10.1, P10.2: all fields at all their edges, with one another.
func TestCheckAllTogether(t *testing.T) {
	for kind := -1; kind < 9; kind++ {
		for _, stamp := range []int{0, 1, -1, 1 << 62, 1<<62 + 1} {
			for _, count := range []int{0, 1, -1, 1<<31 - 1, 1 << 31} {
				for _, key := range []string{"", "k", great(255), great(256)} {
					for _, value := range []string{"", "a", great(4096), great(4097)} {
						sameCheck(t, "together", fact{kind, stamp, count, key, value, false})
						sameCheck(t, "together, dead", fact{kind, stamp, count, key, value, true})
					}
				}
			}
		}
	}
}

// P10.1, P10.2: of entries by chance, with some fields twisted.
func TestCheckByChance(t *testing.T) {
	r := rand.New(rand.NewSource(101))
	seen := map[api.Errno]int{}
	for range 20000 {
		f := factBy(r)
		for range r.Intn(3) {
			f = twisted(r, f)
		}
		seen[paperCode(f)]++
		sameCheck(t, "by chance", f)
	}
	if seen[api.OK] < 5000 || seen[api.ErrEntry] < 5000 {
		t.Errorf("answers came too seldom: %v", seen)
	}
}
