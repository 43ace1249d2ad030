package order

import (
	"cloister/api"
	"cloister/codec"
)

// Decode reads items.
func Decode(s string) ([]api.Item, api.Errno) {
	var items []api.Item
	for r := (reader{rest: s}); r.rest != ""; {
		it := r.item()
		if r.wrong || len(items) == api.MaxItems {
			return nil, api.ErrItems
		}
		items = append(items, it)
	}
	return items, api.OK
}

// reader takes items off a text, and remembers whether it met bytes that Encode does not write: what it answers from then on counts no more.
type reader struct {
	rest  string
	wrong bool
}

// item takes one item.
func (r *reader) item() api.Item {
	it := api.Item{Kind: int(r.octet())}
	switch it.Kind {
	case api.ItemNone:
	case api.ItemBool:
		it.Bool = r.truth()
	case api.ItemInt:
		it.Int = int64(r.word() ^ sign)
	case api.ItemFloat:
		it.Float = r.number()
	case api.ItemComplex:
		first := r.number()
		it.Complex = complex(first, r.number())
	case api.ItemText:
		it.Text = r.text()
	default:
		r.wrong = true
	}
	return it
}

// next takes so many bytes, or none if there are fewer.
func (r *reader) next(n int) string {
	if n > len(r.rest) {
		r.wrong = true
		return ""
	}
	taken := r.rest[:n]
	r.rest = r.rest[n:]
	return taken
}

// octet takes one byte.
func (r *reader) octet() byte {
	taken := r.next(1)
	if taken == "" {
		return 0
	}
	return taken[0]
}

// truth takes a truth value.
func (r *reader) truth() bool {
	b := r.octet()
	r.wrong = r.wrong || b > 1
	return b == 1
}

// word takes 64 bits.
func (r *reader) word() uint64 {
	return codec.Take[uint64](codec.Open([]byte(r.next(8))))
}

// number takes a number, which must be clean: others are written as the clean one's bytes, never as their own.
func (r *reader) number() float64 {
	word := r.word()
	x := unrising(word)
	r.wrong = r.wrong || rising(x) != word
	return x
}

// text takes a text, its end included.
func (r *reader) text() string {
	var text []byte
	for !r.wrong {
		b := r.octet()
		if b == 0 {
			switch r.octet() {
			case textEnds:
				return string(text)
			case textGoesOn:
			default:
				r.wrong = true
			}
		}
		text = append(text, b)
	}
	return ""
}
