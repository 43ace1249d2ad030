package wal_test

import (
	"fmt"
	"math"
	"math/rand"
	"strings"
	"testing"

	"cloister/api"
	"cloister/wal"
)

// P11.5: entries alone, of each kind and of several, safe and loose.
func TestEntriesAlone(t *testing.T) {
	for n := range len(few()) + 1 {
		facts := few()[:n]
		for safe := range n + 1 {
			p := lain(t, 0, facts[:safe]...)
			p.lay(row(facts[safe:]...))
			tells(t, "entries alone", p.l, stepsOf(0, facts...))
		}
	}
}

// noEntries is payloads that are no entry's.
func noEntries() []string {
	whole := payloadOf(put("k", "ab"))
	return []string{"", "\x00", "\x07", "\xff", whole + "\x00", whole[:len(whole)-1], "\x01\x00\x00", "\x02\x00", "\x02\x82\x00\x6b", "\x05\x02\x6b\x0a\x02\x00", "\x05\x02\x6b\x0a\x01\x02x", "\x03\x01\x02", row(few()...), great(4097), great(65536)}
}

// tails is bytes of every sort of which no entry can be read, however well it goes on behind them.
func tails() []string {
	all := []string{"", "\x00", "\xc4", "\xc6", "\xff", "\xc5", "\xc5\xc5\xc5\xc5\xc5\xc5\xc5\xc5\xc5\xc5", "junk", strings.Repeat("\x00", 1000), great(5000)}
	for _, f := range few()[:5] {
		whole := row(f)
		for n := 1; n < len(whole); n++ {
			all = append(all, whole[:n])
		}
		for at := range whole {
			all = append(all, turned(whole, at, 1), turned(whole, at, 128))
		}
	}
	for _, payload := range noEntries() {
		all = append(all, framed(payload))
	}
	return append(all, framed(great(65537)))
}

// P11.5: bytes behind the entries, of every sort, are passed over, and so is all that stands behind them.
func TestBytesBehind(t *testing.T) {
	for _, n := range []int{0, 1, 3} {
		facts := few()[:n]
		for _, tail := range tails() {
			what := fmt.Sprintf("behind %d entries: %x", n, tail)
			p := lain(t, 0, facts...)
			p.lay(tail)
			tells(t, what, p.l, stepsOf(0, facts...))
			p.holds(t, what)
			p = opened(t, 0, api.Span{Base: 8, Bytes: []byte(row(facts...) + tail)})
			tells(t, what+", safe", p.l, stepsOf(8, facts...))
			p.lay(strings.Repeat("\x00", 70000) + row(few()...)) // so far that no length reaches beyond it, and no frame that was cut is made whole
			tells(t, what+", and entries far behind", p.l, stepsOf(8, facts...))
		}
	}
}

// P11.5: a frame whose payload is no entry ends it, whatever frames stand right behind it.
func TestNoEntryEndsIt(t *testing.T) {
	for _, payload := range noEntries() {
		for n := range 4 {
			p := blank(t)
			p.write(t, "ahead", few()[:n]...)
			p.lay(framed(payload))
			p.write(t, "behind no entry", few()...)
			p.group(t, "behind no entry", few()...)
			tells(t, fmt.Sprintf("behind the payload %.100x", payload), p.l, stepsOf(0, few()[:n]...))
		}
	}
}

// P11.5: a frame with a wrong sum ends it, whatever frames stand right behind it.
func TestWrongSumEndsIt(t *testing.T) {
	for _, f := range few() {
		whole := row(f)
		for at := 5; at < len(whole); at++ {
			p := blank(t)
			p.write(t, "ahead", few()[:2]...)
			p.lay(turned(whole, at, byte(1+at%255)) + row(few()...))
			tells(t, fmt.Sprint("another byte ", at), p.l, stepsOf(0, few()[:2]...))
		}
	}
}

// P11.5: an area whose Base is not 0: entries end at offsets of the area.
func TestEntriesOfABase(t *testing.T) {
	for _, base := range []int{1, 14, 1 << 32, 1<<62 - 1, 1 << 62} {
		p := lain(t, base, few()...)
		tells(t, "loaded", p.l, stepsOf(base, few()...))
		p.group(t, "more", few()...)
		tells(t, "more", p.l, stepsOf(base, append(few(), few()...)...))
	}
}

// P11.5: a Base in the midst of an entry, at every offset: what lies there is read from there on.
func TestEntriesFromTheMidst(t *testing.T) {
	p := lain(t, 0, few()...)
	_, _, end := p.l.Bounds()
	for base := range end + 1 {
		p.trim(t, "in the midst", base)
	}
	inner := put("k", row(few()[:3]...)) // its value is a log of its own
	q := lain(t, 0, inner)
	from := strings.Index(row(inner), row(few()[:3]...))
	q.trim(t, "to the inner entries", from)
	tells(t, "the inner entries", q.l, stepsOf(from, few()[:3]...))
}

// P11.5: an area that is loaded with any bytes: by chance, marks and short lengths strewn in, and entries put between.
func TestEntriesOfAnyBytes(t *testing.T) {
	r := rand.New(rand.NewSource(115))
	for range 4000 {
		var b []byte
		for range r.Intn(6) {
			switch r.Intn(3) {
			case 0:
				b = append(b, row(factsBy(r, 3)...)...)
			case 1:
				b = append(b, framed(by(r, r.Intn(12)))...)
			default:
				some := []byte(by(r, r.Intn(30)))
				for i := range some {
					some[i] = []byte{0, 0, 197, some[i]}[r.Intn(4)]
				}
				b = append(b, some...)
			}
		}
		base := r.Intn(1 << (1 + r.Intn(61)))
		opened(t, 0, api.Span{Base: base, Bytes: b}).holds(t, "any bytes")
		if t.Failed() {
			return
		}
	}
}

// P11.5: what is told does not hang on whether the disk is down, and telling asks no operation.
func TestEntriesDown(t *testing.T) {
	p := lain(t, 3, few()...)
	p.write(t, "loose", few()...)
	p.arm(api.Fate{})
	tells(t, "down", p.l, stepsOf(3, append(few(), few()...)...))
	p.holds(t, "down")
	same(t, "Done", p.d.Done(p.area), 0)
}

// P11.6: the area's bounds, in their order, as they come and go.
func TestBounds(t *testing.T) {
	p := lain(t, 10, few()[0], few()[0])
	size := len(row(few()[0]))
	bounds := func(what string, want ...int) {
		t.Helper()
		base, safe, end := p.l.Bounds()
		same(t, what, fmt.Sprint(base, safe, end), strings.Trim(fmt.Sprint(want), "[]"))
	}
	bounds("loaded", 10, 10+2*size, 10+2*size)
	p.write(t, "more", few()[0])
	bounds("written", 10, 10+2*size, 10+3*size)
	p.trim(t, "one less", 10+size)
	bounds("trimmed", 10+size, 10+2*size, 10+3*size)
	p.lay("loose")
	bounds("loose bytes", 10+size, 10+2*size, 15+3*size)
	p.sync(t, "safe")
	bounds("synced", 10+size, 15+3*size, 15+3*size)
	p.cut(t, "back", 10+size)
	bounds("cut", 10+size, 10+size, 10+size)
}

// P11.7: a log that is not there, whatever it is asked.
func TestNoLog(t *testing.T) {
	var none *wal.Log
	for _, entries := range [][]api.Entry{nil, {}, entriesOf(few()), entriesOf(wrong())} {
		same(t, "Write", none.Write(entries), api.ErrNil)
		same(t, "Group", none.Group(entries), api.ErrNil)
	}
	for _, number := range []int{math.MinInt, -1, 0, 1, math.MaxInt} {
		same(t, "Cut", none.Cut(number), api.ErrNil)
		same(t, "Trim", none.Trim(number), api.ErrNil)
	}
	same(t, "Sync", none.Sync(), api.ErrNil)
	entries, ends := none.Entries()
	same(t, "entries", len(entries), 0)
	same(t, "ends", len(ends), 0)
	base, safe, end := none.Bounds()
	same(t, "Bounds", [3]int{base, safe, end}, [3]int{})
}
