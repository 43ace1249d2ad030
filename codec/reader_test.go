package codec_test

import (
	"fmt"
	"math"
	"math/rand"
	"testing"

	"cloister/api"
	"cloister/codec"
)

// pair is a reader and its paper.
type pair struct {
	r *codec.Reader
	p *paper
}

func open(b []byte) pair { return pair{codec.Open(b), &paper{b: b}} }

// step does one reading, chosen by which, with both, and tells both answers.
func (x pair) step(which, a, b int) (what string, got, want any) {
	switch which {
	case 0:
		return "Take[uint8]", uint64(codec.Take[uint8](x.r)), x.p.fixed(1)
	case 1:
		return "Take[uint16]", uint64(codec.Take[uint16](x.r)), x.p.fixed(2)
	case 2:
		return "Take[large]", uint64(codec.Take[large](x.r)), x.p.fixed(4)
	case 3:
		return "Take[uint64]", codec.Take[uint64](x.r), x.p.fixed(8)
	case 4:
		return fmt.Sprintf("Text(%d)", a), x.r.Text(a), string(x.p.counted(a))
	case 5:
		return fmt.Sprintf("Bytes(%d)", a), x.r.Bytes(a), x.p.counted(a)
	default:
		return fmt.Sprintf("Int(%d, %d)", a, b), x.r.Int(a, b), x.p.number(a, b)
	}
}

// check does one reading and holds the answer, the place, the fault and the end against the paper.
func (x pair) check(t *testing.T, which, a, b int) {
	t.Helper()
	what, got, want := x.step(which, a, b)
	same(t, fmt.Sprint(what, " of ", x.p.b), got, want)
	same(t, fmt.Sprint(what, ", then Left, Fault, End of ", x.p.b), state(x.r), [3]int{x.p.left(), int(x.p.fault), int(x.p.end())})
}

func bound(source *rand.Rand) int {
	bounds := []int{0, 0, 1, 2, 5, 63, 64, 200, -1, -64, -65, math.MaxInt, math.MaxInt, math.MinInt, math.MinInt}
	return bounds[source.Intn(len(bounds))]
}

// P2.4 to P2.9: readings one behind the other, over all kinds of bytes, two readers in turns.
func TestReadings(t *testing.T) {
	source := rand.New(rand.NewSource(1))
	for range 20000 {
		one, two := open(stuff(source)), open(stuff(source))
		same(t, "a new reader", state(one.r), [3]int{len(one.p.b), 0, int(one.p.end())})
		for range 8 {
			one.check(t, source.Intn(9), bound(source), bound(source))
			two.check(t, source.Intn(9), bound(source), bound(source))
		}
	}
}

// P2.4
func TestOpen(t *testing.T) {
	same(t, "of no bytes", state(codec.Open(nil)), [3]int{0, 0, 0})
	same(t, "of empty bytes", state(codec.Open(list())), [3]int{0, 0, 0})
	same(t, "of three bytes", state(codec.Open(list(0, 1, 2))), [3]int{3, 0, int(api.ErrTail)})
}

// readingsOf is each reading, told as a text.
func readingsOf(r *codec.Reader) []string {
	return []string{
		fmt.Sprint(codec.Take[uint8](r)), fmt.Sprint(codec.Take[middle](r)), fmt.Sprint(codec.Take[uint32](r)), fmt.Sprint(codec.Take[uint64](r)),
		fmt.Sprint(r.Int(1, 1)), fmt.Sprint(r.Int(2, 1)), r.Text(9) + "0", r.Text(-1) + "0", fmt.Sprint(len(r.Bytes(9))), fmt.Sprint(len(r.Bytes(-1))),
	}
}

// P2.5, P2.9: a reader that is not there.
func TestNoReader(t *testing.T) {
	for _, told := range readingsOf(nil) {
		same(t, "a reading of no reader", told, "0")
	}
	same(t, "Left, Fault, End of no reader", state(nil), [3]int{0, int(api.ErrNil), int(api.ErrNil)})
}

// P2.5: each fault stays, with it the place, and each reading behind it answers zero.
func TestFaultStays(t *testing.T) {
	faults := map[api.Errno]func(*codec.Reader){
		api.ErrArg:  func(r *codec.Reader) { r.Int(1, 0) },
		api.ErrForm: func(r *codec.Reader) { r.Int(0, 0) },
		api.ErrCut:  func(r *codec.Reader) { r.Text(100) },
	}
	for fault, fail := range faults {
		r := codec.Open(list(2, 40, 3, 4, 5, 6, 7, 8, 9, 10, 11, 12))
		same(t, "the first", codec.Take[uint8](r), uint8(2))
		fail(r)
		stays := [3]int{11, int(fault), int(fault)}
		same(t, "behind the fault", state(r), stays)
		for _, told := range readingsOf(r) {
			same(t, "a reading behind a fault", told, "0")
			same(t, "behind the fault", state(r), stays)
		}
	}
}

// takeAt: P2.6 at one width: with all bytes, one fewer, one more.
func takeAt[T codec.Unsigned](t *testing.T, wide int) {
	t.Helper()
	for _, v := range wides() {
		b := highestFirst(v, wide)
		r := codec.Open(b)
		same(t, "Take", codec.Take[T](r), T(v))
		same(t, "behind Take", state(r), [3]int{0, 0, 0})
		r = codec.Open(b[1:])
		same(t, "Take of a byte fewer", codec.Take[T](r), T(0))
		same(t, "behind Take of a byte fewer", state(r), [3]int{wide - 1, int(api.ErrCut), int(api.ErrCut)})
		r = codec.Open(append(b, 77))
		same(t, "Take of a byte more", codec.Take[T](r), T(v))
		same(t, "behind Take of a byte more", state(r), [3]int{1, 0, int(api.ErrTail)})
		same(t, "the byte more", codec.Take[uint8](r), uint8(77))
	}
}

// P2.6
func TestTake(t *testing.T) {
	takeAt[uint8](t, 1)
	takeAt[uint16](t, 2)
	takeAt[uint32](t, 4)
	takeAt[uint64](t, 8)
	takeAt[small](t, 1)
	takeAt[middle](t, 2)
	takeAt[large](t, 4)
	takeAt[great](t, 8)
}

// P2.7: each step, the tenth byte, the bounds and their edges, by hand.
func TestInt(t *testing.T) {
	least, most := math.MinInt, math.MaxInt
	for _, c := range []struct {
		b         []byte
		low, high int
		want      int
		left      int
		fault     api.Errno
	}{
		{nil, least, most, 0, 0, api.ErrCut},
		{list(128), least, most, 0, 1, api.ErrCut},
		{times(9, 128), least, most, 0, 9, api.ErrCut},
		{times(9, 255), least, most, 0, 9, api.ErrCut},
		{times(9, 128, 1), least, most, 1 << 62, 0, api.OK},
		{times(9, 128, 0), least, most, 0, 10, api.ErrForm},
		{times(9, 128, 2), least, most, 0, 10, api.ErrForm},
		{times(9, 255, 1, 4), least, most, least, 1, api.OK},
		{times(10, 128), least, most, 0, 10, api.ErrForm},
		{times(12, 255), least, most, 0, 12, api.ErrForm},
		{times(9, 255, 127), least, most, 0, 10, api.ErrForm},
		{list(0), 0, 0, 0, 0, api.OK},
		{list(0, 0), 0, 0, 0, 1, api.OK},
		{list(128, 0), least, most, 0, 2, api.ErrForm},
		{list(255, 0, 5), least, most, 0, 3, api.ErrForm},
		{list(128, 128, 0), least, most, 0, 3, api.ErrForm},
		{list(128, 128, 1), least, most, 1 << 13, 0, api.OK},
		{list(127), least, most, -64, 0, api.OK},
		{list(12), 6, 6, 6, 0, api.OK},
		{list(12), 5, 6, 6, 0, api.OK},
		{list(12), 6, 7, 6, 0, api.OK},
		{list(12), 7, 7, 0, 1, api.ErrForm},
		{list(12), 5, 5, 0, 1, api.ErrForm},
		{list(12), 7, 6, 0, 1, api.ErrArg},
		{nil, 7, 6, 0, 0, api.ErrArg},
		{list(128, 0), 1, 0, 0, 2, api.ErrArg},
		{list(12), most, least, 0, 1, api.ErrArg},
		{times(9, 255, 1), least, least, least, 0, api.OK},
		{times(9, 255, 1), least + 1, most, 0, 10, api.ErrForm},
		{append(append(list(254), times(8, 255)...), 1), most, most, most, 0, api.OK},
		{append(append(list(254), times(8, 255)...), 1), least, most - 1, 0, 10, api.ErrForm},
	} {
		r := codec.Open(c.b)
		what := fmt.Sprintf("Int(%d, %d) of %v", c.low, c.high, c.b)
		same(t, what, r.Int(c.low, c.high), c.want)
		same(t, what+": Fault", r.Fault(), c.fault)
		same(t, what+": Left", r.Left(), c.left)
	}
}

// P2.8: the order of errors, by hand; Text and Bytes alike.
func TestTextAndBytes(t *testing.T) {
	for _, c := range []struct {
		b     []byte
		most  int
		want  string
		left  int
		fault api.Errno
	}{
		{nil, -1, "", 0, api.ErrArg},
		{list(128, 0), -1, "", 2, api.ErrArg},
		{list(4, 97, 98), math.MinInt, "", 3, api.ErrArg},
		{nil, 0, "", 0, api.ErrCut},
		{list(0), 0, "", 0, api.OK},
		{list(0, 9), 5, "", 1, api.OK},
		{list(2, 97), 0, "", 2, api.ErrForm},
		{list(2, 97), 1, "a", 0, api.OK},
		{list(4, 97), 1, "", 2, api.ErrForm}, // too long ahead of too few bytes
		{list(4, 97), 2, "", 2, api.ErrCut},
		{list(4, 97, 98), 2, "ab", 0, api.OK},
		{list(4, 97, 98, 99), math.MaxInt, "ab", 1, api.OK},
		{list(4, 0, 255), 2, "\x00\xff", 0, api.OK},
		{list(3, 97, 98), 9, "", 3, api.ErrForm}, // -2 bytes
		{list(128, 0), 9, "", 2, api.ErrForm},
		{list(128), 9, "", 1, api.ErrCut},
		{append(append(list(254), times(8, 255)...), 1, 7), math.MaxInt, "", 11, api.ErrCut},
	} {
		what := fmt.Sprintf("(%d) of %v", c.most, c.b)
		r := codec.Open(c.b)
		same(t, "Text"+what, r.Text(c.most), c.want)
		same(t, "Text"+what+": Fault, Left", [2]int{int(r.Fault()), r.Left()}, [2]int{int(c.fault), c.left})
		r = codec.Open(c.b)
		same(t, "Bytes"+what, string(r.Bytes(c.most)), c.want)
		same(t, "Bytes"+what+": Fault, Left", [2]int{int(r.Fault()), r.Left()}, [2]int{int(c.fault), c.left})
	}
}

// P2.9: they tell and change nothing.
func TestTellingChangesNothing(t *testing.T) {
	r := codec.Open(list(1, 2, 3))
	for want := 3; want > 0; want-- {
		for range 3 {
			same(t, "Left, Fault, End", state(r), [3]int{want, 0, int(api.ErrTail)})
		}
		same(t, "Take", codec.Take[uint8](r), uint8(4-want))
	}
	same(t, "at the end", state(r), [3]int{0, 0, 0})
	codec.Take[uint8](r)
	for range 3 {
		same(t, "behind a fault, no bytes left", state(r), [3]int{0, int(api.ErrCut), int(api.ErrCut)})
	}
}
