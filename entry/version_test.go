package entry_test

import (
	"fmt"
	"math"
	"math/rand"
	"testing"

	"cloister/entry"
)

// versions is versions of each kind, such that may not be too.
func versions() (all []told) {
	for _, key := range []string{"", "k", "\x00\xff", great(255), great(256), great(5000)} {
		for _, value := range []string{"", "x", "\x00", great(4096), great(4097)} {
			for _, stamp := range []int{0, 1, 7, -1, 1 << 62, 1<<62 + 1, math.MinInt, math.MaxInt} {
				all = append(all, told{key, stamp, value, false}, told{key, stamp, value, true})
			}
		}
	}
	return all
}

// sameVersion holds what Version says of a fact, asked twice, against what is wanted.
func sameVersion(t *testing.T, f fact, want told, is bool) {
	t.Helper()
	for range 2 {
		got, ok := entry.Version(f.entryOf())
		if toldOf(got) != want || ok != is {
			t.Errorf("Version of %.300s: got %.300s %v, want %.300s %v", fmt.Sprintf("%+v", f), fmt.Sprintf("%+v", toldOf(got)), ok, fmt.Sprintf("%+v", want), is)
		}
	}
}

// P10.4: OfWrite is the put of a key and a value, or the delete of a key; the Stamp is not looked at.
func TestOfWrite(t *testing.T) {
	same(t, "a value", factOf(entry.OfWrite(told{"k", 7, "ab", false}.versionOf())), put("k", "ab"))
	same(t, "no value", factOf(entry.OfWrite(told{"k", 7, "", false}.versionOf())), put("k", ""))
	same(t, "dead", factOf(entry.OfWrite(told{"k", 7, "", true}.versionOf())), gone("k"))
	same(t, "dead, with a value", factOf(entry.OfWrite(told{"k", 7, "x", true}.versionOf())), gone("k"))
	for _, v := range versions() {
		want := fact{kind: 1, key: v.key, value: v.value}
		if v.dead {
			want = fact{kind: 2, key: v.key}
		}
		same(t, fmt.Sprintf("OfWrite of %+v", v), factOf(entry.OfWrite(v.versionOf())), want)
	}
}

// P10.4: OfVersion is the version's fields, as they are.
func TestOfVersion(t *testing.T) {
	same(t, "a value", factOf(entry.OfVersion(told{"k", 7, "ab", false}.versionOf())), version("k", 7, "ab"))
	same(t, "dead", factOf(entry.OfVersion(told{"k", 7, "", true}.versionOf())), dead("k", 7))
	for _, v := range versions() {
		same(t, fmt.Sprintf("OfVersion of %+v", v), factOf(entry.OfVersion(v.versionOf())), fact{kind: 5, key: v.key, stamp: v.stamp, value: v.value, dead: v.dead})
	}
}

// P10.5: Version of entries of each Kind.
func TestVersion(t *testing.T) {
	sameVersion(t, put("k", "ab"), told{key: "k", value: "ab"}, true)
	sameVersion(t, put("k", ""), told{key: "k"}, true)
	sameVersion(t, gone("k"), told{key: "k", dead: true}, true)
	sameVersion(t, version("k", 5, "x"), told{"k", 5, "x", false}, true)
	sameVersion(t, dead("k", 5), told{"k", 5, "", true}, true)
	for _, kind := range []int{3, 4, 6} {
		sameVersion(t, at(kind, 3, 2), told{}, false)
	}
}

// P10.5: of entries that may not be too: what does not count is not looked at, and what does is as it is.
func TestVersionOfWhatMayNotBe(t *testing.T) {
	for _, count := range []int{0, 1, -1} {
		for _, v := range versions() {
			f := fact{0, v.stamp, count, v.key, v.value, v.dead}
			for _, kind := range []int{0, -1, 3, 4, 6, 7, 255, 256, 257, 258, 261, 1<<32 + 1, math.MinInt, math.MaxInt} {
				f.kind = kind
				sameVersion(t, f, told{}, false)
			}
			f.kind = 1
			sameVersion(t, f, told{key: v.key, value: v.value}, true)
			f.kind = 2
			sameVersion(t, f, told{key: v.key, dead: true}, true)
			f.kind = 5
			sameVersion(t, f, v, true)
		}
	}
}

// P10.5: of entries by chance.
func TestVersionByChance(t *testing.T) {
	r := rand.New(rand.NewSource(105))
	for range 5000 {
		f := twisted(r, factBy(r))
		want := told{key: f.key}
		switch f.kind {
		case 1:
			want.value = f.value
		case 2:
			want.dead = true
		case 5:
			want = told{f.key, f.stamp, f.value, f.dead}
		default:
			want = told{}
		}
		sameVersion(t, f, want, f.kind == 1 || f.kind == 2 || f.kind == 5)
	}
}
