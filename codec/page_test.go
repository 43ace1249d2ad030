package codec_test

import (
	"bytes"
	"math"
	"testing"

	"cloister/api"
	"cloister/codec"
)

// puts is each Put onto the bytes.
func puts(b []byte) [][]byte {
	return [][]byte{
		codec.Put(b, uint8(1)), codec.Put(b, uint16(2)), codec.Put(b, large(3)), codec.Put(b, uint64(4)),
		codec.PutInt(b, 5), codec.PutInt(b, math.MinInt), codec.PutText(b, ""), codec.PutText(b, "abc"), codec.PutBytes(b, nil), codec.PutBytes(b, b),
	}
}

// THE PAGE, Memory: what is handed in stays as it is, its spare room too; no two answers share any.
func TestPutsShareNothing(t *testing.T) {
	for _, b := range heads() {
		given, whole := roomy(b)
		before := bytes.Clone(whole)
		answers, want := puts(given), puts(bytes.Clone(b))
		same(t, "what was handed in", whole, before)
		for i := range answers {
			same(t, "an answer", answers[i], want[i])
			spoil(answers[i], 99)
			same(t, "what was handed in", whole, before)
		}
	}
}

// THE PAGE, Memory: an answer that is put onto further stays as it was.
func TestPutTwiceOntoOne(t *testing.T) {
	base := codec.PutText(nil, "base")
	one, two := codec.PutInt(base, 1), codec.PutInt(base, 2)
	same(t, "the first", one, append(bytes.Clone(base), 2))
	same(t, "the second", two, append(bytes.Clone(base), 4))
	same(t, "the base", base, list(8, 98, 97, 115, 101))
}

// THE PAGE, Memory: PutBytes leaves the bytes that it lays down as they are, and shares none of them.
func TestPutBytesCopies(t *testing.T) {
	given, whole := roomy(list(1, 2))
	before := bytes.Clone(whole)
	answer := codec.PutBytes(nil, given)
	spoil(answer, 99)
	same(t, "what was handed in", whole, before)
	answer = codec.PutBytes(nil, given)
	spoil(given, 98)
	same(t, "the answer", answer, list(4, 1, 2))
}

// THE PAGE, Memory: a reader keeps bytes of its own, and hands out none of them.
func TestReaderOwnsItsBytes(t *testing.T) {
	given, whole := roomy(list(4, 97, 98, 4, 99, 100, 4, 101, 102))
	before := bytes.Clone(whole)
	r := codec.Open(given)
	one := r.Bytes(2)
	same(t, "what was handed in", whole, before)
	spoil(whole, 0)
	word := r.Text(2)
	spoil(one, 77)
	two := r.Bytes(2)
	same(t, "the text", word, "cd")
	same(t, "the last bytes", two, list(101, 102))
	spoil(one, 78)
	same(t, "the last bytes", two, list(101, 102))
	same(t, "End", r.End(), api.OK)
	same(t, "what was handed in", whole, times(len(whole), 0))
}

// THE PAGE, Memory: bytes of one reader, taken twice over, are not the same memory.
func TestTwoReadersOfOneList(t *testing.T) {
	b := list(4, 1, 2)
	one, two := codec.Open(b), codec.Open(b)
	first := one.Bytes(2)
	spoil(first, 9)
	same(t, "the second reader's", two.Bytes(2), list(1, 2))
	same(t, "what was handed in", b, list(4, 1, 2))
}

// W0: long bytes too; a reader that is a zero value or a copy does not panic.
func TestEnds(t *testing.T) {
	long := times(1<<20, 255)
	r := codec.Open(codec.PutBytes(nil, long))
	same(t, "long bytes", bytes.Equal(r.Bytes(1<<20), long), true)
	same(t, "End", r.End(), api.OK)
	codec.Open(long).Int(math.MinInt, math.MaxInt)
	readingsOf(new(codec.Reader))
	kept := *codec.Open(long)
	readingsOf(&kept)
}

// The examples of the chapter.
func TestExamples(t *testing.T) {
	for i, c := range []struct{ got, want []byte }{
		{codec.Put(nil, uint16(258)), list(1, 2)},
		{codec.Put(list(7), uint32(1)), list(7, 0, 0, 0, 1)},
		{codec.Put(nil, uint64(1)), list(0, 0, 0, 0, 0, 0, 0, 1)},
		{codec.PutInt(nil, 0), list(0)},
		{codec.PutInt(nil, -1), list(1)},
		{codec.PutInt(nil, 1), list(2)},
		{codec.PutInt(nil, 63), list(126)},
		{codec.PutInt(nil, 64), list(128, 1)},
		{codec.PutInt(nil, -65), list(129, 1)},
		{codec.PutInt(nil, math.MaxInt), append(append(list(254), times(8, 255)...), 1)},
		{codec.PutInt(nil, math.MinInt), times(9, 255, 1)},
		{codec.PutText(list(9), "ab"), list(9, 4, 97, 98)},
		{codec.PutBytes(nil, nil), list(0)},
	} {
		if !bytes.Equal(c.got, c.want) {
			t.Errorf("row %d: got %v, want %v", i, c.got, c.want)
		}
	}
	r := codec.Open(list(1, 2, 3))
	same(t, "the reader of 1 2 3", []int{int(codec.Take[uint16](r)), r.Left(), int(r.End()), int(codec.Take[uint16](r)), r.Left(), int(r.Fault()), int(codec.Take[uint8](r)), int(r.End())},
		[]int{258, 1, int(api.ErrTail), 0, 1, int(api.ErrCut), 0, int(api.ErrCut)})
	ints := func(b []byte, low, high, want, left int, fault api.Errno) {
		t.Helper()
		r := codec.Open(b)
		same(t, "Int, Left, Fault", []int{r.Int(low, high), r.Left(), int(r.Fault())}, []int{want, left, int(fault)})
	}
	ints(list(128, 1), 0, 64, 64, 0, api.OK)
	ints(list(128, 1), 0, 63, 0, 2, api.ErrForm)
	ints(list(128, 0), -9, 9, 0, 2, api.ErrForm)
	ints(list(128), -9, 9, 0, 1, api.ErrCut)
	ints(nil, -9, 9, 0, 0, api.ErrCut)
	ints(list(17), -9, 9, -9, 0, api.OK)
	ints(list(10), 5, 4, 0, 1, api.ErrArg)
	ints(times(9, 255, 1), math.MinInt, math.MaxInt, math.MinInt, 0, api.OK)
	ints(times(9, 255, 2), math.MinInt, math.MaxInt, 0, 10, api.ErrForm)
	ints(times(10, 255), math.MinInt, math.MaxInt, 0, 10, api.ErrForm)
	texts := func(b []byte, most int, want string, end api.Errno) {
		t.Helper()
		r := codec.Open(b)
		same(t, "Text", r.Text(most), want)
		same(t, "End", r.End(), end)
	}
	texts(list(4, 97, 98), 2, "ab", api.OK)
	texts(list(4, 97), 9, "", api.ErrCut)
	texts(list(4, 97, 98), 1, "", api.ErrForm)
	texts(list(4, 97, 98), -1, "", api.ErrArg)
}
