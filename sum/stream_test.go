package sum_test

import (
	"math/rand"
	"testing"

	"cloister/sum"
)

// P3.3: pieces, empty ones too, with Sum and Len in between.
func TestStreamInPieces(t *testing.T) {
	source := rand.New(rand.NewSource(34))
	for range 100 {
		var s sum.Stream
		var all []byte
		for range 20 {
			piece := randomBytes(source, source.Intn(5)*source.Intn(9))
			s.Write(piece)
			all = append(all, piece...)
			told(t, "in between", &s, paperOf(all), len(all))
		}
	}
}

// P3.3: what is asked only at the end is the same.
func TestStreamAskedOnce(t *testing.T) {
	var s sum.Stream
	var all []byte
	for n := range 60 {
		piece := make([]byte, n)
		for i := range piece {
			piece[i] = byte(n * i)
		}
		s.Write(piece)
		all = append(all, piece...)
	}
	told(t, "at the end", &s, paperOf(all), len(all))
}

// P3.3: empty pieces alone are nothing.
func TestStreamOfNothing(t *testing.T) {
	var s sum.Stream
	told(t, "new", &s, 0, 0)
	for range 3 {
		s.Write(nil)
		s.Write([]byte{})
		told(t, "nothing written", &s, 0, 0)
	}
	s.Reset()
	told(t, "nothing to forget", &s, 0, 0)
	s.Write([]byte{0})
	told(t, "a 0", &s, 0xD202EF8D, 1)
}

// P3.3: behind a Reset, and behind a second one, all begins anew.
func TestReset(t *testing.T) {
	s := &sum.Stream{}
	for _, text := range []string{"first", "", "second, and a longer one", "3"} {
		s.Write([]byte(text))
		told(t, text, s, paperOf([]byte(text)), len(text))
		s.Write([]byte("more"))
		told(t, text+" more", s, paperOf([]byte(text+"more")), len(text)+4)
		s.Reset()
		told(t, "behind Reset", s, 0, 0)
		s.Reset()
		told(t, "behind two", s, 0, 0)
	}
}

// P3.3: two streams have nothing to do with one another.
func TestTwoStreams(t *testing.T) {
	var one, two sum.Stream
	var first, second []byte
	for i := range 50 {
		one.Write([]byte{byte(i)})
		first = append(first, byte(i))
		two.Write([]byte{byte(i), byte(255 - i), 7})
		second = append(second, byte(i), byte(255-i), 7)
		if i == 20 {
			one.Reset()
			first = nil
		}
		told(t, "one", &one, paperOf(first), len(first))
		told(t, "two", &two, paperOf(second), len(second))
	}
}

// P3.3: of a stream that is not there nothing is told, and nothing comes of what is done to it.
func TestNoStream(t *testing.T) {
	var none *sum.Stream
	told(t, "not there", none, 0, 0)
	none.Write([]byte("abc"))
	none.Write(nil)
	told(t, "written to", none, 0, 0)
	none.Reset()
	told(t, "reset", none, 0, 0)
}

// P3.3: a stream and calls of More do not meet.
func TestStreamBesideMore(t *testing.T) {
	var s sum.Stream
	s.Write([]byte("ab"))
	sum.Of([]byte("zzz"))
	sum.More(s.Sum(), []byte("cd"))
	told(t, "beside More", &s, paperOf([]byte("ab")), 2)
	s.Write([]byte("cd"))
	told(t, "written further", &s, paperOf([]byte("abcd")), 4)
}
