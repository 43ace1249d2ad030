package sum

// Stream sums what is written to it.
type Stream struct {
	count
	sum uint32 // kept as a sum, not as a register, so that the zero value is that of nothing
}

// count is how many bytes were written.
type count struct{ length int }

func (c *count) add(b []byte) { c.length += len(b) }

func (c *count) clear() { c.length = 0 }

// Write writes bytes.
func (s *Stream) Write(b []byte) {
	if s == nil {
		return
	}
	s.add(b)
	s.sum = More(s.sum, b)
}

// Sum is the sum so far.
func (s *Stream) Sum() uint32 {
	if s == nil {
		return 0
	}
	return s.sum
}

// Len is how many bytes were written.
func (s *Stream) Len() int {
	if s == nil {
		return 0
	}
	return s.length
}

// Reset forgets all.
func (s *Stream) Reset() {
	if s == nil {
		return
	}
	s.clear()
	s.sum = 0
}
