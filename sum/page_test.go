package sum_test

import (
	"bytes"
	"sync"
	"testing"

	"cloister/sum"
)

// P3.7: what is handed in is not changed, spare room included.
func TestNothingChanged(t *testing.T) {
	for n := range 40 {
		whole := make([]byte, n+20)
		for i := range whole {
			whole[i] = byte(3*i + n)
		}
		before, given := bytes.Clone(whole), whole[:n]
		var s sum.Stream
		sum.Of(given)
		sum.More(77, given)
		s.Write(given)
		s.Sum()
		s.Len()
		s.Reset()
		s.Write(given)
		(*sum.Stream)(nil).Write(given)
		sameBytes(t, "what was handed in", whole, before)
	}
}

// P3.7: what is handed in is not kept: writing over it changes no answer, and the stream goes on from what it was.
func TestNothingKept(t *testing.T) {
	room := make([]byte, 8)
	copy(room, "12345678")
	var s sum.Stream
	s.Write(room[:4])
	copy(room, "abcdefgh")
	told(t, "written over", &s, paperOf([]byte("1234")), 4)
	copy(room, "56789zzz")
	s.Write(room[:5])
	clear(room)
	told(t, "written over again", &s, 0xCBF43926, 9)
	s.Reset()
	copy(room, "12345678")
	told(t, "behind Reset", &s, 0, 0)
}

// Calls at the same time do not meet.
func TestAtOnce(t *testing.T) {
	b := bytes.Repeat([]byte("123456789"), 100)
	want := paperOf(b)
	got := make([]uint32, 8)
	var all sync.WaitGroup
	for i := range got {
		all.Go(func() {
			var s sum.Stream
			for range 20 {
				s.Reset()
				s.Write(b[:i])
				s.Write(b[i:])
			}
			got[i] = s.Sum()
		})
	}
	all.Wait()
	for _, one := range got {
		same(t, "at once", one, want)
	}
}
