package entry_test

import (
	"fmt"
	"math/rand"
	"strings"
	"testing"

	"cloister/api"
	"cloister/entry"
)

// taken holds that Decode takes an entry off bytes that are written out.
func taken(t *testing.T, b string, want fact) {
	t.Helper()
	got, code := entry.Decode([]byte(b))
	same(t, fmt.Sprintf("Decode of %.300x", b), code, api.OK)
	same(t, fmt.Sprintf("Decode of %.300x", b), factOf(got), want)
}

// P10.3: each Kind.
func TestDecodeEachKind(t *testing.T) {
	taken(t, "\x01\x02k\x04ab", put("k", "ab"))
	taken(t, "\x01\x06key\x00", put("key", ""))
	taken(t, "\x02\x04ab", gone("ab"))
	taken(t, "\x03\x02\x82\x01", at(3, 1, 65))
	taken(t, "\x04\x82\x01\x02", at(4, 65, 1))
	taken(t, "\x06\x02\x04", at(6, 1, 2))
	taken(t, "\x05\x02k\x0a\x00\x02x", version("k", 5, "x"))
	taken(t, "\x05\x02k\x0a\x00\x00", version("k", 5, ""))
	taken(t, "\x05\x02k\x0a\x01\x00", dead("k", 5))
	for _, f := range good() {
		taken(t, paperBytes(f), f)
	}
}

// P10.3: no bytes, and a Kind alone.
func TestDecodeNothing(t *testing.T) {
	for _, b := range [][]byte{nil, {}, make([]byte, 0, 9), []byte("\x03\x00\x00")[:0]} {
		e, code := entry.Decode(b)
		same(t, "nothing", factOf(e), fact{})
		same(t, "nothing", code, api.ErrEntry)
	}
	for kind := range 256 {
		refused(t, "a kind alone", string([]byte{byte(kind)}))
	}
}

// P10.3: every beginning, and bytes behind.
func TestDecodeBeginningsAndTails(t *testing.T) {
	for _, f := range few() {
		b := paperBytes(f)
		for n := range len(b) {
			refused(t, "a beginning", b[:n])
		}
		for x := range 256 {
			refused(t, "a byte behind", b+string([]byte{byte(x)}))
		}
		refused(t, "itself behind", b+b)
		refused(t, "many bytes behind", b+great(70000))
		refused(t, "a byte ahead", "\x00"+b)
	}
}

// padded is forms of a number that are not its one form: groups of nought behind its short form.
func padded(n int) (all []string) {
	b := []byte(short(n))
	for len(b) < 12 {
		b[len(b)-1] |= 128
		b = append(b, 0)
		all = append(all, string(b))
	}
	return all
}

// P10.3: a number or a length that is not in its one form.
func TestDecodeOtherForms(t *testing.T) {
	for _, n := range []int{0, 1, 63, 64, 1 << 20, 1<<31 - 1} {
		for _, form := range padded(n) {
			for _, kind := range []string{"\x03", "\x04", "\x06"} {
				refused(t, "another form of a stamp", kind+form+"\x02")
				refused(t, "another form of a count", kind+"\x02"+form)
			}
			refused(t, "another form of a version's stamp", "\x05\x02k"+form+"\x00\x02x")
			refused(t, "another form of a dead one's stamp", "\x05\x02k"+form+"\x01\x00")
		}
	}
	for _, form := range padded(1) {
		for _, behind := range []string{"\x01" + form + "k\x02x", "\x01\x02k" + form + "x", "\x02" + form + "k", "\x05" + form + "k\x0a\x00\x02x", "\x05\x02k\x0a\x00" + form + "x"} {
			refused(t, "another form of a length", behind)
		}
	}
	for _, form := range padded(0) {
		refused(t, "another form of a length of nothing", "\x01\x02k"+form)
		refused(t, "another form of a dead one's length", "\x05\x02k\x0a\x01"+form)
	}
}

// P10.3: numbers outside their bounds.
func TestDecodeOutsideBounds(t *testing.T) {
	for _, n := range wrongNumbers() {
		for _, kind := range []string{"\x03", "\x04", "\x06"} {
			refused(t, "a stamp", kind+short(n)+"\x02")
			refused(t, "a count", kind+"\x02"+short(n))
		}
		refused(t, "a version's stamp", "\x05\x02k"+short(n)+"\x00\x02x")
		refused(t, "a key's length", "\x02"+short(n)+"k")
		refused(t, "a value's length", "\x01\x02k"+short(n)+"x")
	}
	for _, kind := range []string{"\x03", "\x04", "\x06"} {
		refused(t, "a count above the most", kind+"\x02"+short(1<<31))
		refused(t, "a stamp of more than 64 bits", kind+strings.Repeat("\xff", 9)+"\x02\x02")
		refused(t, "a count of more than 64 bits", kind+"\x02"+strings.Repeat("\xff", 10))
		refused(t, "a stamp of 64 bits and one more group", kind+strings.Repeat("\x80", 9)+"\x81\x00\x02")
	}
}

// P10.3: bytes of an entry that may not be.
func TestDecodeWhatMayNotBe(t *testing.T) {
	for _, f := range wrong() {
		b := paperBytes(f)
		if f.kind < 0 || f.kind > 255 { // its byte is another kind's
			continue
		}
		refused(t, "may not be", b)
	}
	for n := 1; n < 5; n++ {
		refused(t, "a dead one with a value", "\x05\x02k\x0a\x01"+counted(great(n)))
	}
	refused(t, "no key", "\x01\x00\x02a")
	refused(t, "no key", "\x02\x00")
	refused(t, "no key", "\x05\x00\x0a\x00\x02x")
	refused(t, "a key too long", "\x02"+counted(great(256)))
	refused(t, "a value too long", "\x01\x02k"+counted(great(4097)))
	refused(t, "a version's value too long", "\x05\x02k\x0a\x00"+counted(great(4097)))
}

// P10.3: a Dead that is neither 0 nor 1.
func TestDecodeDead(t *testing.T) {
	for x := 2; x < 256; x++ {
		refused(t, "dead", "\x05\x02k\x0a"+string([]byte{byte(x)})+"\x00")
		refused(t, "dead", "\x05\x02k\x0a"+string([]byte{byte(x)})+"\x02x")
	}
}

// P10.3: a Kind that is none, whichever fields stand behind it.
func TestDecodeKinds(t *testing.T) {
	for kind := range 256 {
		for _, f := range few() {
			b := string([]byte{byte(kind)}) + paperBytes(f)[1:]
			if kind < 1 || kind > 6 {
				refused(t, "no kind", b)
			}
			sameDecode(t, "another kind", b)
		}
	}
}

// P10.3: lengths that say more than there is, or less.
func TestDecodeLengths(t *testing.T) {
	for n := range 300 {
		sameDecode(t, "a key's length", "\x02"+short(n)+great(100))
		sameDecode(t, "a value's length", "\x01\x02k"+short(n)+great(100))
		sameDecode(t, "a version's key's length", "\x05"+short(n)+great(50)+"\x0a\x00\x02x")
		sameDecode(t, "a version's value's length", "\x05\x02k\x0a\x00"+short(n)+great(100))
	}
	refused(t, "the greatest length", "\x02\xfe\xff\xff\xff\xff\xff\xff\xff\xff\x01k")
}

// P10.3: all rows of few bytes.
func TestDecodeAllShort(t *testing.T) {
	strewn := "\x00\x01\x02\x03\x04\x05\x06\x07\x7e\x7f\x80\x81\x82\xfe\xff"
	for i := range 1 << 16 {
		sameDecode(t, "two bytes", string([]byte{byte(i >> 8), byte(i)}))
	}
	for _, kind := range []byte("\x01\x02\x03\x04\x05\x06") {
		for i := range 1 << 16 {
			sameDecode(t, "three bytes", string([]byte{kind, byte(i >> 8), byte(i)}))
		}
		for i := range 15 * 15 * 15 * 15 {
			sameDecode(t, "five bytes", string([]byte{kind, strewn[i%15], strewn[i/15%15], strewn[i/225%15], strewn[i/3375]}))
		}
	}
}

// P10.3: each byte of an entry turned into each other one.
func TestDecodeTurned(t *testing.T) {
	for _, f := range few() {
		b := paperBytes(f)
		for i := range b {
			for with := 1; with < 256; with++ {
				sameDecode(t, "turned", turned(b, i, byte(with)))
			}
		}
	}
}

// P10.3: of bytes by chance: entries, some of them twisted, cut, turned, with bytes behind.
func TestDecodeByChance(t *testing.T) {
	r := rand.New(rand.NewSource(103))
	seen := map[api.Errno]int{}
	for range 20000 {
		f := factBy(r)
		if r.Intn(4) == 0 {
			f = twisted(r, f)
		}
		b := paperBytes(f)
		switch r.Intn(6) {
		case 0:
			b = b[:r.Intn(len(b)+1)]
		case 1:
			b += by(r, 1+r.Intn(5))
		case 2:
			b = turned(b, r.Intn(min(len(b), 20)), byte(r.Intn(256)))
		}
		_, code := paperDecode(b)
		seen[code]++
		sameDecode(t, "by chance", b)
	}
	if seen[api.OK] < 5000 || seen[api.ErrEntry] < 5000 {
		t.Errorf("answers came too seldom: %v", seen)
	}
}
