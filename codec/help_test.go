package codec_test

import (
	"bytes"
	"fmt"
	"math"
	"math/big"
	"math/rand"
	"reflect"
	"slices"
	"testing"

	"cloister/api"
	"cloister/codec"
)

// kinds with names of their own
type (
	small  uint8
	middle uint16
	large  uint32
	great  uint64
)

func list(b ...byte) []byte { return b }

// times is a byte, so many times, and others behind it.
func times(n int, b byte, behind ...byte) []byte {
	return append(bytes.Repeat(list(b), n), behind...)
}

// same holds an answer against what is wanted; nil and empty lists are the same.
func same(t *testing.T, what string, got, want any) {
	t.Helper()
	g, w := reflect.ValueOf(got), reflect.ValueOf(want)
	if g.Kind() == reflect.Slice && w.Kind() == reflect.Slice && g.Len() == 0 && w.Len() == 0 {
		return
	}
	if !reflect.DeepEqual(got, want) {
		t.Errorf("%.300s: got %.300s, want %.300s", what, fmt.Sprint(got), fmt.Sprint(want))
	}
}

// foldOf is the document's words, in numbers without an end.
func foldOf(n int) *big.Int {
	twice := new(big.Int).Mul(big.NewInt(int64(n)), big.NewInt(2))
	if n >= 0 {
		return twice
	}
	return twice.Neg(twice).Sub(twice, big.NewInt(1))
}

// shortOf is the short form: the fold's groups of seven bits, the lowest first.
func shortOf(n int) []byte {
	var out []byte
	rest, seven := foldOf(n), big.NewInt(128)
	for {
		group := new(big.Int)
		rest.DivMod(rest, seven, group)
		if rest.Sign() == 0 {
			return append(out, byte(group.Int64()))
		}
		out = append(out, byte(group.Int64())+128)
	}
}

// highestFirst is the bytes of a number of a fixed width.
func highestFirst(v uint64, wide int) []byte {
	out := make([]byte, wide)
	for i := range out {
		out[wide-1-i] = byte(v % 256)
		v /= 256
	}
	return out
}

// edges is the ints at which the short form's length changes, and those beside them, on both sides.
func edges() []int {
	all := []int{0, 1, -1, 2, -2, math.MaxInt, math.MaxInt - 1, math.MinInt, math.MinInt + 1}
	for bit := 6; bit < 63; bit++ {
		for _, off := range []int{-2, -1, 0, 1} {
			all = append(all, 1<<bit+off, -(1<<bit)+off)
		}
	}
	return all
}

// wides is numbers of every sort, to be cut to a width.
func wides() []uint64 {
	return []uint64{0, 1, 2, 127, 128, 200, 255, 256, 258, 1<<16 - 1, 1 << 16, 0x01020304, 1<<32 - 1, 1 << 32, 0x0102030405060708, 0xf1e2d3c4b5a69788, 1<<63 - 1, 1 << 63, math.MaxUint64 - 1, math.MaxUint64}
}

// paper is a reader by the document's words.
type paper struct {
	b     []byte
	place int
	fault api.Errno
}

func (p *paper) left() int { return len(p.b) - p.place }

// fixed: P2.6.
func (p *paper) fixed(wide int) uint64 {
	if p.fault != api.OK {
		return 0
	}
	if p.left() < wide {
		p.fault = api.ErrCut
		return 0
	}
	var v uint64
	for i := range wide {
		v = v*256 + uint64(p.b[p.place+i])
	}
	p.place += wide
	return v
}

// look is P2.7 without the fault: the number, how many bytes it has, an error.
func look(b []byte, low, high int) (int, int, api.Errno) {
	if low > high {
		return 0, 0, api.ErrArg
	}
	value := new(big.Int)
	for i := 0; ; i++ {
		if i >= len(b) {
			return 0, 0, api.ErrCut
		}
		if i == 9 && b[i] > 1 {
			return 0, 0, api.ErrForm
		}
		group := big.NewInt(int64(b[i] % 128))
		value.Add(value, group.Lsh(group, uint(7*i)))
		if b[i] >= 128 {
			continue
		}
		if b[i] == 0 && i > 0 {
			return 0, 0, api.ErrForm
		}
		n := whoseFold(value)
		if n < low || n > high {
			return 0, 0, api.ErrForm
		}
		return n, i + 1, api.OK
	}
}

func whoseFold(f *big.Int) int {
	n := new(big.Int).Rsh(f, 1)
	if f.Bit(0) == 1 {
		n.Neg(n).Sub(n, big.NewInt(1))
	}
	return int(n.Int64())
}

func (p *paper) number(low, high int) int {
	if p.fault != api.OK {
		return 0
	}
	n, used, code := look(p.b[p.place:], low, high)
	p.fault = code
	p.place += used
	return n
}

// counted: P2.8.
func (p *paper) counted(most int) []byte {
	if p.fault != api.OK {
		return nil
	}
	if most < 0 {
		p.fault = api.ErrArg
		return nil
	}
	n, used, code := look(p.b[p.place:], 0, most)
	if code == api.OK && p.left()-used < n {
		code = api.ErrCut
	}
	if p.fault = code; code != api.OK {
		return nil
	}
	taken := p.b[p.place+used : p.place+used+n]
	p.place += used + n
	return taken
}

func (p *paper) end() api.Errno {
	if p.fault == api.OK && p.left() > 0 {
		return api.ErrTail
	}
	return p.fault
}

// stuff is bytes of every sort: forms that are one, that are none, cut ones, random ones.
func stuff(source *rand.Rand) []byte {
	var b []byte
	for range source.Intn(6) {
		switch source.Intn(7) {
		case 0:
			b = append(b, shortOf(edges()[source.Intn(len(edges()))])...)
		case 1:
			n := source.Intn(5)
			b = append(append(b, shortOf(n)...), bytes.Repeat(list(97), n)...)
		case 2:
			b = append(b, times(source.Intn(12), byte(128+source.Intn(128)), byte(source.Intn(3)))...)
		case 3:
			b = append(b, list(128, 0)...)
		case 4:
			b = append(b, highestFirst(source.Uint64(), 1<<source.Intn(4))...)
		default:
			b = append(b, byte(source.Intn(256)))
		}
	}
	return b
}

// spoil overwrites bytes and their spare room.
func spoil(b []byte, with byte) {
	b = b[:cap(b)]
	for i := range b {
		b[i] = with
	}
}

// roomy is the bytes with spare room behind them, and the whole of both.
func roomy(b []byte) (given, whole []byte) {
	whole = append(slices.Clone(b), 81, 82, 83, 84, 85, 86, 87, 88, 89, 90, 91, 92, 93, 94, 95)
	return whole[:len(b)], whole
}

// state is what a reader tells of itself.
func state(r *codec.Reader) [3]int {
	return [3]int{r.Left(), int(r.Fault()), int(r.End())}
}
