package wal_test

import (
	"encoding/binary"
	"fmt"
	"hash/crc32"
	"math/rand"
	"slices"
	"strings"
	"testing"

	"cloister/api"
	"cloister/disk"
	"cloister/entry"
	"cloister/frame"
	"cloister/wal"
)

// same holds an answer against what is wanted.
func same[A comparable](t *testing.T, what string, got, want A) {
	t.Helper()
	if got != want {
		t.Errorf("%.300s: got %.300s, want %.300s", what, fmt.Sprintf("%#v", got), fmt.Sprintf("%#v", want))
	}
}

// fact is an entry as a thing that can be compared: of a Value what it says counts, not whether it is nil.
type fact struct {
	kind, stamp, count int
	key, value         string
	dead               bool
}

// entryOf is the entry of a fact, in memory of its own.
func (f fact) entryOf() api.Entry {
	return api.Entry{Kind: f.kind, Stamp: f.stamp, Count: f.count, Key: f.key, Value: []byte(f.value), Dead: f.dead}
}

// factOf is an entry's fact.
func factOf(e api.Entry) fact {
	return fact{e.Kind, e.Stamp, e.Count, e.Key, string(e.Value), e.Dead}
}

// entriesOf is the entries of facts.
func entriesOf(facts []fact) (entries []api.Entry) {
	for _, f := range facts {
		entries = append(entries, f.entryOf())
	}
	return entries
}

func put(key, value string) fact { return fact{kind: 1, key: key, value: value} }

func gone(key string) fact { return fact{kind: 2, key: key} }

func at(kind, stamp, count int) fact { return fact{kind: kind, stamp: stamp, count: count} }

func version(key string, stamp int, value string) fact {
	return fact{kind: 5, key: key, stamp: stamp, value: value}
}

func dead(key string, stamp int) fact { return fact{kind: 5, key: key, stamp: stamp, dead: true} }

// few is entries of each kind that may be.
func few() []fact {
	return []fact{put("k", "\x07"), put("ab", ""), gone("k"), at(3, 1, 1), at(3, 300, 8192), at(4, 0, 0), at(4, 1<<62, 1<<31-1), version("k", 5, "x"), version("\x00\xff", 0, ""), dead("k", 64), at(6, 64, 1), put("\xc5", "\xc5\x00\x00\x00\x00"), put("long", great(300))}
}

// wrong is entries that may not be.
func wrong() []fact {
	return []fact{{}, {kind: 9}, {kind: 7}, {kind: -1}, put("", "a"), gone(great(256)), put("k", great(4097)), at(3, -1, 0), at(4, 1<<62+1, 0), at(6, 0, 1<<31), {kind: 1, key: "k", stamp: 1}, {kind: 2, key: "k", value: "v"}, {kind: 5, key: "k", value: "v", dead: true}}
}

// short is the short form of a number: the library's variable-length numbers are folded and cut alike.
func short(n int) string { return string(binary.AppendVarint(nil, int64(n))) }

// counted is bytes behind the short form of their number.
func counted(s string) string { return short(len(s)) + s }

// payloadOf is the bytes of an entry that may be, by layer 10's words.
func payloadOf(f fact) string {
	head := string([]byte{byte(f.kind)})
	switch f.kind {
	case 1:
		return head + counted(f.key) + counted(f.value)
	case 2:
		return head + counted(f.key)
	case 5:
		return head + counted(f.key) + short(f.stamp) + map[bool]string{false: "\x00", true: "\x01"}[f.dead] + counted(f.value)
	}
	return head + short(f.stamp) + short(f.count)
}

// framed is a payload's frame, by layer 9's words.
func framed(payload string) string {
	summed := "\xc5" + string(binary.BigEndian.AppendUint32(nil, uint32(len(payload)))) + payload
	return summed + string(binary.BigEndian.AppendUint32(nil, crc32.ChecksumIEEE([]byte(summed))))
}

// row is the frames of entries, one behind the other.
func row(facts ...fact) string {
	var b strings.Builder
	for _, f := range facts {
		b.WriteString(framed(payloadOf(f)))
	}
	return b.String()
}

// step is what a log tells of an entry.
type step struct {
	fact
	end int
}

// stepsOf is what a log tells of a row of entries that begins at an offset.
func stepsOf(base int, facts ...fact) (steps []step) {
	for _, f := range facts {
		base += len(row(f))
		steps = append(steps, step{f, base})
	}
	return steps
}

// sameSteps holds what a log tells against what is wanted.
func sameSteps(t *testing.T, what string, got, want []step) {
	t.Helper()
	if !slices.Equal(got, want) {
		t.Errorf("%.300s: got %d entries %.400s, want %d entries %.400s", what, len(got), fmt.Sprintf("%#v", got), len(want), fmt.Sprintf("%#v", want))
	}
}

// told is what a log tells; there must be as many ends as entries.
func told(t *testing.T, what string, l *wal.Log) (steps []step) {
	t.Helper()
	entries, ends := l.Entries()
	if len(entries) != len(ends) {
		t.Fatalf("%.300s: %d entries, but %d ends", what, len(entries), len(ends))
	}
	for i, e := range entries {
		steps = append(steps, step{factOf(e), ends[i]})
	}
	return steps
}

// tells holds what a log tells, asked twice, against what is wanted.
func tells(t *testing.T, what string, l *wal.Log, want []step) {
	t.Helper()
	for range 2 {
		sameSteps(t, what, told(t, what, l), want)
	}
}

// pair is a log, and a second disk of which layer 8's calls are asked that the chapter says the log asks of its own.
type pair struct {
	area    int
	d, twin *disk.Disk
	l       *wal.Log
}

// loaded is a disk with these areas.
func loaded(t *testing.T, spans ...api.Span) *disk.Disk {
	t.Helper()
	d, code := disk.Load(spans)
	if d == nil || code != api.OK {
		t.Fatalf("Load of %d spans: got %v, %v", len(spans), d, code)
	}
	return d
}

// logOf is the log that Open must make.
func logOf(t *testing.T, d *disk.Disk, area int) *wal.Log {
	t.Helper()
	l, code := wal.Open(d, area)
	if l == nil || code != api.OK {
		t.Fatalf("Open of the area %d: got %v, %v", area, l, code)
	}
	return l
}

// opened is a log of an area of a disk with these areas.
func opened(t *testing.T, area int, spans ...api.Span) *pair {
	t.Helper()
	p := &pair{area: area, d: loaded(t, spans...), twin: loaded(t, spans...)}
	p.l = logOf(t, p.d, area)
	p.holds(t, "opened")
	return p
}

// blank is a log of an empty area that has others on both sides.
func blank(t *testing.T) *pair {
	t.Helper()
	return opened(t, 1, api.Span{Bytes: []byte("before")}, api.Span{}, api.Span{Base: 5, Bytes: []byte(row(put("a", "z")))})
}

// lain is a log of an area that begins at an offset, with these entries, all safe.
func lain(t *testing.T, base int, facts ...fact) *pair {
	t.Helper()
	return opened(t, 1, api.Span{}, api.Span{Base: base, Bytes: []byte(row(facts...))}, api.Span{})
}

// diskTells is all that a disk tells.
func diskTells(d *disk.Disk) string {
	var b strings.Builder
	for i := range d.Areas() {
		base, safe, end, code := d.Bounds(i)
		all, read := d.Read(i, base, end-base)
		fmt.Fprintf(&b, "area %d: %d %d %d, done %d, %d %d, %x; ", i, base, safe, end, d.Done(i), code, read, all)
	}
	return b.String()
}

// walked is the entries of an area by the chapter's words.
func walked(d *disk.Disk, area int) (steps []step) {
	place, _, end, _ := d.Bounds(area)
	for {
		rest, _ := d.Read(area, place, end-place)
		payload, size, code := frame.Read(rest)
		e, is := entry.Decode(payload)
		if code != api.OK || is != api.OK {
			return steps
		}
		place += size
		steps = append(steps, step{factOf(e), place})
	}
}

// holds holds all that a log and its disk tell against what the second disk tells.
func (p *pair) holds(t *testing.T, what string) {
	t.Helper()
	same(t, what+": the disk", diskTells(p.d), diskTells(p.twin))
	tells(t, what+": Entries", p.l, walked(p.twin, p.area))
	base, safe, end, _ := p.twin.Bounds(p.area)
	gotBase, gotSafe, gotEnd := p.l.Bounds()
	same(t, what+": Bounds", [3]int{gotBase, gotSafe, gotEnd}, [3]int{base, safe, end})
	same(t, what+": the disk, once told", diskTells(p.d), diskTells(p.twin))
}

// wantWrite is Write by the chapter's words.
func (p *pair) wantWrite(facts []fact) api.Errno {
	for _, f := range facts {
		if code := entry.Check(f.entryOf()); code != api.OK {
			return code
		}
		if code := p.twin.Append(p.area, []byte(row(f))); code != api.OK {
			return code
		}
	}
	return api.OK
}

// wantGroup is Group by the chapter's words.
func (p *pair) wantGroup(facts []fact) api.Errno {
	for _, f := range facts {
		if entry.Check(f.entryOf()) != api.OK {
			return api.ErrEntry
		}
	}
	if code := p.wantWrite(facts); code != api.OK {
		return code
	}
	return p.twin.Sync(p.area)
}

// write, group, sync, cut and trim ask the log and the second disk, hold the answers and all that is told behind them against each other, and give the log's answer.

func (p *pair) write(t *testing.T, what string, facts ...fact) api.Errno {
	t.Helper()
	return p.both(t, fmt.Sprintf("%s: Write %.200s", what, fmt.Sprintf("%#v", facts)), p.l.Write(entriesOf(facts)), p.wantWrite(facts))
}

func (p *pair) group(t *testing.T, what string, facts ...fact) api.Errno {
	t.Helper()
	return p.both(t, fmt.Sprintf("%s: Group %.200s", what, fmt.Sprintf("%#v", facts)), p.l.Group(entriesOf(facts)), p.wantGroup(facts))
}

func (p *pair) sync(t *testing.T, what string) api.Errno {
	t.Helper()
	return p.both(t, what+": Sync", p.l.Sync(), p.twin.Sync(p.area))
}

func (p *pair) cut(t *testing.T, what string, end int) api.Errno {
	t.Helper()
	return p.both(t, fmt.Sprint(what, ": Cut ", end), p.l.Cut(end), p.twin.Cut(p.area, end))
}

func (p *pair) trim(t *testing.T, what string, base int) api.Errno {
	t.Helper()
	return p.both(t, fmt.Sprint(what, ": Trim ", base), p.l.Trim(base), p.twin.Trim(p.area, base))
}

func (p *pair) both(t *testing.T, what string, got, want api.Errno) api.Errno {
	t.Helper()
	same(t, what, got, want)
	p.holds(t, what)
	return got
}

// lay appends bytes to the area, past the log.
func (p *pair) lay(text string) {
	p.d.Append(p.area, []byte(text))
	p.twin.Append(p.area, []byte(text))
}

// arm gives the log's area a fate; the areas ahead of it have one that would let everything through.
func (p *pair) arm(fate api.Fate) {
	fates := slices.Repeat([]api.Fate{{Done: 99, Keep: 99}}, p.area)
	p.d.Arm(append(fates, fate))
	p.twin.Arm(append(fates, fate))
}

// strike is the loss of power.
func (p *pair) strike(t *testing.T, what string) {
	t.Helper()
	p.d.Strike()
	p.twin.Strike()
	p.holds(t, what+": struck")
}

// by is bytes by chance, so many.
func by(r *rand.Rand, n int) string {
	b := make([]byte, n)
	r.Read(b)
	return string(b)
}

// factBy is an entry by chance that may be, mostly a short one.
func factBy(r *rand.Rand) fact {
	key, stamp, count := by(r, 1+r.Intn(255)>>r.Intn(9)), int(r.Uint64()>>(2+r.Intn(62))), int(r.Uint32()>>(1+r.Intn(31)))
	value := by(r, r.Intn(500)>>r.Intn(10))
	switch kind := 1 + r.Intn(7); kind {
	case 1:
		return put(key, value)
	case 2:
		return gone(key)
	case 5:
		return version(key, stamp, value)
	case 7:
		return dead(key, stamp)
	default:
		return at(kind, stamp, count)
	}
}

// factsBy is entries by chance, at most so many.
func factsBy(r *rand.Rand, most int) []fact {
	facts := make([]fact, r.Intn(most+1))
	for i := range facts {
		facts[i] = factBy(r)
	}
	return facts
}

// turned is a text one byte of which is put together with another one by exclusive or.
func turned(text string, at int, with byte) string {
	b := []byte(text)
	b[at] ^= with
	return string(b)
}

// great is so many bytes, no two of them alike for long.
func great(n int) string {
	b := make([]byte, n)
	for i := range b {
		b[i] = byte(i*i>>3 ^ i + 1)
	}
	return string(b)
}
