package codec

import "cloister/api"

// cursor goes through bytes and gives up, by a panic with the error, where it can't go on.
type cursor struct{ rest []byte }

// next takes the next n bytes, as a piece of the reader's own.
func (c *cursor) next(n int) []byte {
	if n > len(c.rest) {
		panic(api.ErrCut)
	}
	taken := c.rest[:n]
	c.rest = c.rest[n:]
	return taken
}

// fixed takes a number of so many bytes, the highest first.
func (c *cursor) fixed(wide int) uint64 {
	var v uint64
	for _, x := range c.next(wide) {
		v = v<<8 | uint64(x)
	}
	return v
}

// short takes a number in its short form, between bounds.
func (c *cursor) short(low, high int) int {
	if low > high {
		panic(api.ErrArg)
	}
	n := unfold(c.groups())
	if n < low || n > high {
		panic(api.ErrForm)
	}
	return n
}

// groups puts groups of seven bits together, the lowest first, and lets no form through but the shortest.
func (c *cursor) groups() uint64 {
	var v uint64
	for i := 0; ; i++ {
		x := c.next(1)[0]
		if i == longest-1 && x > 1 { // beyond 64 bits
			panic(api.ErrForm)
		}
		v |= uint64(x&127) << (7 * i)
		if x >= 128 {
			continue
		}
		if x == 0 && i > 0 { // one group fewer holds it too
			panic(api.ErrForm)
		}
		return v
	}
}

// counted takes bytes behind their number. (A most below 0 is a high below the low: the number's own ErrArg.)
func (c *cursor) counted(most int) []byte {
	return c.next(c.short(0, most))
}
