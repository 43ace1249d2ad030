package codec_test

import (
	"bytes"
	"fmt"
	"math"
	"math/rand"
	"testing"

	"cloister/api"
	"cloister/codec"
)

// thing is one that is put and read again.
type thing struct {
	put  func(b []byte) []byte
	read func(r *codec.Reader) bool // whether it is the same again
}

func fixed[T codec.Unsigned](v T) thing {
	return thing{func(b []byte) []byte { return codec.Put(b, v) }, func(r *codec.Reader) bool { return codec.Take[T](r) == v }}
}

func number(n, low, high int) thing {
	return thing{func(b []byte) []byte { return codec.PutInt(b, n) }, func(r *codec.Reader) bool { return r.Int(low, high) == n }}
}

func text(s string, most int) thing {
	return thing{func(b []byte) []byte { return codec.PutText(b, s) }, func(r *codec.Reader) bool { return r.Text(most) == s }}
}

func run(p []byte, most int) thing {
	return thing{func(b []byte) []byte { return codec.PutBytes(b, p) }, func(r *codec.Reader) bool { return bytes.Equal(r.Bytes(most), p) }}
}

func oneThing(source *rand.Rand) thing {
	v := source.Uint64() >> source.Intn(64)
	p := times(source.Intn(80), byte(v))
	n := edges()[source.Intn(len(edges()))]
	return []thing{
		fixed(uint8(v)), fixed(uint16(v)), fixed(uint32(v)), fixed(v), fixed(middle(v)),
		number(n, n, n), number(n, math.MinInt, n), number(n, n, math.MaxInt), number(int(v), math.MinInt, math.MaxInt),
		text(string(p), len(p)), text(string(p), math.MaxInt), run(p, len(p)), run(p, len(p)+1),
	}[source.Intn(13)]
}

// readAll tells how many readings in a row answered the same things without a fault.
func readAll(r *codec.Reader, things []thing) int {
	for i, x := range things {
		if !x.read(r) || r.Fault() != api.OK {
			return i
		}
	}
	return len(things)
}

// P2.10: there and back, with a byte less and a byte more.
func TestThereAndBack(t *testing.T) {
	source := rand.New(rand.NewSource(2))
	for range 3000 {
		var things []thing
		var b []byte
		for range 1 + source.Intn(7) {
			x := oneThing(source)
			things = append(things, x)
			b = x.put(b)
		}
		r := codec.Open(b)
		same(t, "how many came back", readAll(r, things), len(things))
		same(t, "End", r.End(), api.OK)
		r = codec.Open(b[:len(b)-1])
		same(t, "how many came back of a byte less", readAll(r, things), len(things)-1)
		same(t, "Fault of a byte less", r.Fault(), api.ErrCut)
		r = codec.Open(append(bytes.Clone(b), byte(source.Intn(256))))
		same(t, "how many came back of a byte more", readAll(r, things), len(things))
		same(t, "End of a byte more", r.End(), api.ErrTail)
	}
}

// anew reads one thing of a kind and puts it anew.
func anew(r *codec.Reader, kind int) []byte {
	switch kind {
	case 0:
		return codec.Put(nil, codec.Take[uint8](r))
	case 1:
		return codec.Put(nil, codec.Take[middle](r))
	case 2:
		return codec.Put(nil, codec.Take[uint32](r))
	case 3:
		return codec.Put(nil, codec.Take[uint64](r))
	case 4:
		return codec.PutText(nil, r.Text(math.MaxInt))
	case 5:
		return codec.PutBytes(nil, r.Bytes(math.MaxInt))
	}
	return codec.PutInt(nil, r.Int(math.MinInt, math.MaxInt))
}

// P2.11: what was taken off, put anew, is the bytes that were taken.
func TestOneForm(t *testing.T) {
	source := rand.New(rand.NewSource(3))
	taken := 0
	for range 20000 {
		b := stuff(source)
		r := codec.Open(b)
		for range b {
			at := len(b) - r.Left()
			put := anew(r, source.Intn(7))
			if r.Fault() == api.OK {
				taken++
				same(t, fmt.Sprint("put anew, from ", at, " on, of ", b), put, b[at:len(b)-r.Left()])
			}
		}
	}
	if taken < 10000 {
		t.Errorf("only %d readings took something", taken)
	}
}

// P2.11: of all forms of two bytes and of one, no two are read as one number.
func TestNoTwoForms(t *testing.T) {
	seen := map[int][]byte{}
	for i := range 256 * 257 {
		b := list(byte(i))
		if i >= 256 {
			b = list(byte(i/256-1), byte(i))
		}
		r := codec.Open(b)
		n := r.Int(math.MinInt, math.MaxInt)
		if r.End() != api.OK {
			continue
		}
		if other, there := seen[n]; there {
			t.Errorf("%v and %v are both read as %d", other, b, n)
		}
		seen[n] = b
	}
	same(t, "how many numbers", len(seen), 128*128)
}

// P2.13: bytes ahead of the place do not count.
func TestBytesAhead(t *testing.T) {
	source := rand.New(rand.NewSource(4))
	for range 5000 {
		b := stuff(source)
		ahead := stuff(source)
		r := codec.Open(append(bytes.Clone(ahead), b...))
		for range ahead {
			codec.Take[uint8](r)
		}
		whole, part := pair{r: r, p: &paper{}}, open(b)
		which, low, high := source.Intn(9), bound(source), bound(source)
		_, got, _ := whole.step(which, low, high)
		what, want, _ := part.step(which, low, high)
		same(t, fmt.Sprint(what, " of ", b, " behind ", ahead), got, want)
		same(t, fmt.Sprint(what, ", then Left, Fault, End of ", b, " behind ", ahead), state(whole.r), state(part.r))
	}
}
