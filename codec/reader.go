package codec

import (
	"bytes"

	"cloister/api"
)

// Reader takes things off bytes.
type Reader struct {
	rest  []byte // the bytes at the place and behind it; never written to
	fault api.Errno
}

// Open is a reader of bytes.
func Open(b []byte) *Reader { return &Reader{rest: bytes.Clone(b)} }

// Take takes a number of a fixed width.
func Take[T Unsigned](r *Reader) T {
	return reading(r, func(c *cursor) T { return T(c.fixed(width[T]())) })
}

// Int takes a number in its short form.
func (r *Reader) Int(low, high int) int {
	return reading(r, func(c *cursor) int { return c.short(low, high) })
}

// Text takes a text.
func (r *Reader) Text(most int) string {
	return reading(r, func(c *cursor) string { return string(c.counted(most)) })
}

// Bytes takes bytes.
func (r *Reader) Bytes(most int) []byte {
	return reading(r, func(c *cursor) []byte { return bytes.Clone(c.counted(most)) })
}

// Left is how many bytes are left.
func (r *Reader) Left() int {
	if r == nil {
		return 0
	}
	return len(r.rest)
}

// Fault is the first error.
func (r *Reader) Fault() api.Errno {
	if r == nil {
		return api.ErrNil
	}
	return r.fault
}

// End is the fault, or whether bytes are left.
func (r *Reader) End() api.Errno {
	if fault := r.Fault(); fault != api.OK {
		return fault
	}
	if r.Left() > 0 {
		return api.ErrTail
	}
	return api.OK
}

// reading is the face of all readings: it works on a cursor of its own, so that the place stays where the reading gives up, and keeps the error as the fault.
func reading[A any](r *Reader, take func(*cursor) A) (answer A) {
	if r.Fault() != api.OK {
		return answer
	}
	defer func() {
		if code, gaveUp := recover().(api.Errno); gaveUp {
			r.fault = code
		}
	}()
	c := cursor{rest: r.rest}
	answer = take(&c)
	r.rest = c.rest
	return answer
}
