package sum

// Half a byte at once: a table for whole bytes would be filled anew by every call, and most bytes that are summed are too few to be worth that.
const (
	halfBits = 4
	halves   = 1 << halfBits
)

// pattern is put together with a register out of which a 1 has fallen.
const pattern = 0xEDB88320

// step shifts a register by one bit.
func step(register uint32) uint32 {
	if register&1 == 1 {
		return register>>1 ^ pattern
	}
	return register >> 1
}

// fill lays down, for each half of a byte, what its steps make of a register that has nothing else in it.
func fill(table *[halves]uint32) {
	for half := range table {
		register := uint32(half)
		for range halfBits {
			register = step(register)
		}
		table[half] = register
	}
}

// take is the register behind a byte. The bits above a half only move down while that half falls out, so what the half makes of an empty register can be put together with them.
func take(table *[halves]uint32, register uint32, taken byte) uint32 {
	register ^= uint32(taken)
	for range 8 / halfBits {
		register = register>>halfBits ^ table[register%halves]
	}
	return register
}
