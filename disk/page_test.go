package disk_test

import (
	"bytes"
	"fmt"
	"math"
	"runtime"
	"slices"
	"testing"
	"weak"

	"cloister/api"
	"cloister/disk"
)

// spare is bytes with spare room behind them that holds others, and the whole of it.
func spare(text string) (given, whole []byte) {
	whole = append([]byte(text), "spare room"...)
	return whole[:len(text)], whole
}

// busy does every call to every area of a disk and its paper, so that bytes of every kind come and go; then it strikes.
func busy(t *testing.T, what string, d *disk.Disk, p *paper) {
	t.Helper()
	fate := api.Fate{Done: 6, Keep: 3, Torn: 255}
	both(t, what, d, p, call{kind: doArm, fates: slices.Repeat([]api.Fate{fate}, api.MaxLabels)})
	for i := range p.sheets {
		both(t, what, d, p, call{kind: doAppend, area: i, text: "abcdef"}, call{kind: doSync, area: i})
		both(t, what, d, p, call{kind: doTrim, area: i, at: p.sheets[i].safeEnd() - 4}, call{kind: doCut, area: i, at: p.sheets[i].end() - 1},
			call{kind: doAppend, area: i, text: "ghijkl"}, call{kind: doSync, area: i}, call{kind: doSync, area: i})
	}
	both(t, what, d, p, call{kind: doStrike})
	for i := range p.sheets {
		both(t, what, d, p, call{kind: doAppend, area: i, text: "mn"})
	}
	holds(t, what, d, p)
}

// Memory: the bytes that are appended are neither changed nor kept, spare room included, whatever is answered.
func TestAppended(t *testing.T) {
	for _, text := range []string{"", "x", "hello"} {
		for _, done := range []int{0, 1, 9} {
			given, whole := spare(text)
			before := bytes.Clone(whole)
			d, p := laid(t)
			fates := []api.Fate{{Done: done, Keep: 99, Torn: 255}, {Done: done, Keep: 99, Torn: 255}}
			both(t, "armed", d, p, call{kind: doArm, fates: fates})
			for _, i := range []int{-1, 0, 1, 2, 3} {
				code := p.operate(i, func(s *sheet) api.Errno { return s.lay(text) })
				same(t, "Append", d.Append(i, given), code)
			}
			same(t, "handed to Append", string(whole), string(before))
			clear(whole)
			holds(t, "written over behind Append", d, p)
			copy(whole, before)
			both(t, "struck", d, p, call{kind: doStrike})
			busy(t, "struck", d, p)
			same(t, "handed to Append, behind a Strike and more", string(whole), string(before))
		}
	}
}

// Memory: the spans are neither changed nor kept, spare room included, of their list and of their bytes.
func TestSpansHandedIn(t *testing.T) {
	one, wholeOne := spare("hello")
	two, wholeTwo := spare("")
	list := []api.Span{{Base: 3, Bytes: one}, {Base: 5, Bytes: two}, {Base: -1, Bytes: one}}
	for _, count := range []int{2, 3} { // the third one is spare room first, and then it is refused
		want := fmt.Sprint(list, wholeOne, wholeTwo)
		d, code := disk.Load(list[:count])
		same(t, "Load", code, []api.Errno{api.OK, api.ErrArg}[count-2])
		same(t, "handed to Load", fmt.Sprint(list, wholeOne, wholeTwo), want)
		if d == nil {
			continue
		}
		_, p := loaded(t, api.Span{Base: 3, Bytes: []byte("hello")}, api.Span{Base: 5})
		kept := slices.Clone(list)
		clear(list)
		clear(wholeOne)
		clear(wholeTwo)
		holds(t, "written over behind Load", d, p)
		copy(list, kept)
		want = fmt.Sprint(list, wholeOne, wholeTwo)
		busy(t, "loaded", d, p)
		same(t, "handed to Load, behind more", fmt.Sprint(list, wholeOne, wholeTwo), want)
	}
}

// Memory: the fates are neither changed nor kept; their spare room is not looked at.
func TestFatesHandedIn(t *testing.T) {
	whole := []api.Fate{{Done: 2, Keep: 3, Torn: 1}, {Done: 1, Keep: 2, Torn: 2}, {Done: 9, Keep: 9, Torn: 9}, {Done: 9, Keep: 9, Torn: 9}}
	for count := range len(whole) + 1 {
		d, p := laid(t)
		given := slices.Clone(whole)
		d.Arm(given[:count])
		p.arm(slices.Clone(whole[:count]))
		same(t, "handed to Arm", slices.Equal(given, whole), true)
		for i := range given {
			given[i] = api.Fate{Done: 7, Keep: 7, Torn: 7}
		}
		over := slices.Clone(given)
		for i := range 3 {
			both(t, "written over behind Arm", d, p, operations(i)[:2]...)
			both(t, "written over behind Arm", d, p, call{kind: doAppend, area: i, text: "abcdefgh"})
		}
		holds(t, "written over behind Arm", d, p)
		both(t, "written over behind Arm", d, p, call{kind: doStrike})
		holds(t, "written over behind Arm, and struck", d, p)
		same(t, "handed to Arm, behind a Strike", slices.Equal(given, over), true)
	}
}

// scribble writes over an answer, its spare room too.
func scribble(b []byte) {
	b = b[:cap(b)]
	for i := range b {
		b[i] ^= 0xff
	}
}

// Memory: what Read answers is new memory, spare room too.
func TestReadIsNew(t *testing.T) {
	d, p := laid(t)
	for i, s := range p.sheets {
		for from := range len(s.all()) + 1 {
			for n := range len(s.all()) - from + 1 {
				one, _ := d.Read(i, s.base+from, n)
				two, _ := d.Read(i, s.base+from, n)
				scribble(one)
				same(t, "another Read", string(two), s.all()[from:from+n])
				holds(t, "written over", d, p)
				_ = append(two, "appended"...)
				holds(t, "appended to", d, p)
			}
		}
		read, _ := d.Read(i, s.base, len(s.all()))
		before := s.all()
		busy(t, "goes on", d, p)
		same(t, "an earlier Read", string(read), before)
	}
}

// imagesOf is spans as a text.
func imagesOf(all []api.Span) string {
	told := ""
	for _, span := range all {
		told += fmt.Sprintf("%d %q; ", span.Base, span.Bytes)
	}
	return told
}

// Memory: what Image answers is new memory, the list and each of its parts, spare room too.
func TestImageIsNew(t *testing.T) {
	d, p := loaded(t, spans(4)...)
	want := p.images()
	for i := range 4 {
		one, two := d.Image(), d.Image()
		scribble(one[i].Bytes)
		for j := range one {
			if j != i {
				same(t, "another part of the same Image", string(one[j].Bytes), p.sheets[j].safe)
			}
		}
		one[i] = api.Span{Base: 77}
		_ = append(one[:i], api.Span{Base: 99})
		_ = append(two[i].Bytes, "appended"...)
		same(t, "another Image", imagesOf(two), want)
		holds(t, "written over", d, p)
	}
	image := d.Image()
	for _, span := range image[len(image):cap(image)] {
		same(t, "spare room", fmt.Sprint(span), fmt.Sprint(api.Span{}))
	}
	busy(t, "goes on", d, p)
	same(t, "an earlier Image", imagesOf(image), want)
}

// What is handed in is let go, also where it was refused.
func TestHandedInIsLetGo(t *testing.T) {
	for _, length := range []int{0, 1, 100} {
		d, _ := made(t, 2)
		big := make([]byte, 1<<16)
		list := make([]api.Span, 100)
		list[0].Bytes = big[:length]
		fates := make([]api.Fate, 10000)
		fates[0].Done = 1
		bytesAt, spansAt, fatesAt := weak.Make(&big[0]), weak.Make(&list[0]), weak.Make(&fates[0])
		loaded, code := disk.Load(list[:api.MaxLabels])
		same(t, "Load", code, api.OK)
		d.Arm(fates)
		same(t, "Append", d.Append(0, big[:length]), api.OK)
		same(t, "Append to one that is down", d.Append(0, big[:length]), api.ErrDown)
		runtime.GC()
		same(t, "bytes are held on to", bytesAt.Value() != nil, false)
		same(t, "spans are held on to", spansAt.Value() != nil, false)
		same(t, "fates are held on to", fatesAt.Value() != nil, false)
		runtime.KeepAlive(d)
		runtime.KeepAlive(loaded)
	}
}

// W0: every call with numbers of every greatness; none panics, and the disk goes on as it must.
func TestAllNumbers(t *testing.T) {
	numbers := []int{math.MinInt, math.MinInt + 1, -most, -1 << 32, -1, 0, 1, 2, 3, 8, 1 << 32, most - 1, most, most + 1, math.MaxInt - 1, math.MaxInt}
	for _, area := range numbers {
		for _, one := range numbers {
			for _, two := range numbers {
				d, p := laid(t)
				fate := api.Fate{Done: one, Keep: two, Torn: byte(two)}
				both(t, "all numbers", d, p, call{kind: doRead, area: area, at: one, n: two},
					call{kind: doTrim, area: area, at: one}, call{kind: doCut, area: area, at: two},
					call{kind: doArm, fates: []api.Fate{fate, fate, fate}},
					call{kind: doAppend, area: area, text: "x"}, call{kind: doSync, area: area},
					call{kind: doCut, area: area, at: one}, call{kind: doTrim, area: area, at: two},
					call{kind: doBounds, area: area}, call{kind: doDone, area: area}, call{kind: doStrike}, call{kind: doImage})
			}
		}
	}
}

// W0: a zero value and a copy of a disk go on without a panic, whatever becomes of the other.
func TestZeroValueAndCopies(t *testing.T) {
	var zero disk.Disk
	d, _ := laid(t)
	other := *d
	for n := range 30 {
		for _, one := range []*disk.Disk{&zero, d, &other} {
			one.Arm([]api.Fate{{Done: n % 5, Keep: n % 4, Torn: byte(n)}})
			for i := -1; i <= 3; i++ {
				for _, c := range operations(i) {
					c.ask(one)
				}
				one.Read(i, n, n)
				one.Bounds(i)
				one.Done(i)
			}
			if n%2 == 0 {
				one.Strike()
			}
			one.Image()
			one.Areas()
		}
	}
}

// The chapter's examples.
func TestExamples(t *testing.T) {
	codes := func(what string, got []api.Errno, want ...api.Errno) {
		t.Helper()
		same(t, what, fmt.Sprint(got), fmt.Sprint(want))
	}
	_, none := disk.New(0)
	_, many := disk.New(17)
	d, code := disk.New(2)
	codes("New", []api.Errno{none, many, code}, api.ErrArg, api.ErrArg, api.OK)
	same(t, "Areas", d.Areas(), 2)
	codes("Sync", []api.Errno{d.Sync(2), d.Sync(-1)}, api.ErrArea, api.ErrArea)

	codes("operations", []api.Errno{d.Append(0, []byte{1, 2}), d.Sync(0), d.Append(0, []byte{3, 4}), d.Append(1, []byte{9})}, 0, 0, 0, 0)
	same(t, "Done", d.Done(0), 3)
	base, safe, end, code := d.Bounds(0)
	same(t, "Bounds", fmt.Sprint(base, safe, end, int(code)), "0 2 4 0")

	d.Strike()
	same(t, "Image", fmt.Sprint(d.Image()), "[{0 [1 2]} {0 []}]")
	same(t, "Done", d.Done(0), 0)

	d.Arm([]api.Fate{{Done: 2, Keep: 1, Torn: 7}})
	codes("armed", []api.Errno{d.Append(0, []byte{5, 6}), d.Sync(0), d.Append(0, []byte{8}), d.Append(1, []byte{9})}, 0, 0, api.ErrDown, api.ErrDown)

	b, code := d.Read(0, 2, 2)
	same(t, "Read", fmt.Sprint(b, int(code)), "[5 6] 0")
	codes("Cut", []api.Errno{d.Cut(0, 99)}, api.ErrDown)
	d.Strike()
	same(t, "Image", fmt.Sprint(d.Image()), "[{0 [1 2 5 6]} {0 []}]")

	d.Arm([]api.Fate{{Done: 9, Keep: 1, Torn: 7}})
	codes("armed again", []api.Errno{d.Append(0, []byte{0, 3})}, 0)
	d.Strike()
	same(t, "Image", fmt.Sprint(d.Image()), "[{0 [1 2 5 6 7]} {0 []}]")

	codes("Cut", []api.Errno{d.Cut(0, 99), d.Cut(0, 4)}, api.ErrRange, 0)
	same(t, "Done", d.Done(0), 1)
	codes("Trim", []api.Errno{d.Trim(0, 2)}, 0)
	same(t, "Image", fmt.Sprint(d.Image()), "[{2 [5 6]} {0 []}]")

	_, none = disk.Load(nil)
	_, below := disk.Load([]api.Span{{Base: -1}})
	codes("Load", []api.Errno{none, below}, api.ErrArg, api.ErrArg)
}
