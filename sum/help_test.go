package sum_test

import (
	"math/rand"
	"slices"
	"testing"

	"cloister/sum"
)

// register is 32 bits one by one, the lowest first.
type register [32]bool

// bitsOf is a number's bits as a register.
func bitsOf(n uint32) (r register) {
	for i := range r {
		r[i] = n>>i&1 == 1
	}
	return r
}

// number is a register's bits as a number.
func (r register) number() (n uint32) {
	for i, bit := range r {
		if bit {
			n |= 1 << i
		}
	}
	return n
}

// otherWay is the register the other way round.
func (r register) otherWay() register {
	for i := range r {
		r[i] = !r[i]
	}
	return r
}

// with is the register put together with another one by exclusive or.
func (r register) with(other register) register {
	for i := range r {
		r[i] = r[i] != other[i]
	}
	return r
}

// step is one step, as the chapter's Words say it.
func (r register) step() register {
	fell := r[0]
	var moved register
	copy(moved[:], r[1:])
	if fell {
		return moved.with(bitsOf(0xEDB88320))
	}
	return moved
}

// take takes a byte, as the chapter's Words say it.
func (r register) take(b byte) register {
	r = r.with(bitsOf(uint32(b)))
	for range 8 {
		r = r.step()
	}
	return r
}

// paperMore is P3.2, bit by bit.
func paperMore(begin uint32, b []byte) uint32 {
	r := bitsOf(begin).otherWay()
	for _, taken := range b {
		r = r.take(taken)
	}
	return r.otherWay().number()
}

// paperOf is P3.1, bit by bit.
func paperOf(b []byte) uint32 {
	r := bitsOf(0xFFFFFFFF)
	for _, taken := range b {
		r = r.take(taken)
	}
	return r.otherWay().number()
}

// same holds an answer against what is wanted.
func same[A int | uint32](t *testing.T, what string, got, want A) {
	t.Helper()
	if got != want {
		t.Errorf("%.300s: got %X, want %X", what, got, want)
	}
}

// sameBytes holds bytes against those that are wanted.
func sameBytes(t *testing.T, what string, got, want []byte) {
	t.Helper()
	if !slices.Equal(got, want) {
		t.Errorf("%s: got %.300X, want %.300X", what, got, want)
	}
}

// told holds what a stream tells of itself against what is wanted, twice: to be asked changes nothing.
func told(t *testing.T, what string, s *sum.Stream, wantSum uint32, wantLen int) {
	t.Helper()
	for range 2 {
		same(t, what+": Sum", s.Sum(), wantSum)
		same(t, what+": Len", s.Len(), wantLen)
	}
}

// randomBytes is so many bytes out of a source.
func randomBytes(source *rand.Rand, n int) []byte {
	b := make([]byte, n)
	source.Read(b)
	return b
}

// xor is texts of one length put together byte by byte by exclusive or.
func xor(texts ...[]byte) []byte {
	out := slices.Clone(texts[0])
	for _, text := range texts[1:] {
		for i := range out {
			out[i] ^= text[i]
		}
	}
	return out
}

// sums is numbers that a sum may begin with, also such that nobody knows the bytes of.
func sums() []uint32 {
	all := []uint32{0, 0xFFFFFFFF, 0xFFFFFFFE, 0x7FFFFFFF, 0xEDB88320, ^uint32(0xEDB88320), 0xCBF43926, 0xDEADBEEF, 0x0000FFFF}
	for bit := range 32 {
		all = append(all, 1<<bit, ^uint32(1<<bit))
	}
	return all
}
