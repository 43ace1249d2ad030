package frame

import (
	"bytes"
	"iter"

	"cloister/api"
)

// All goes through the frames that stand one behind the other: where each ends, and its payload. The walk has a copy of the bytes, so that it is the same whenever it is gone over.
func All(b []byte) iter.Seq2[int, []byte] {
	row := bytes.Clone(b)
	return func(yield func(int, []byte) bool) {
		end := 0
		for {
			payload, size, code := Read(row[end:])
			if code != api.OK {
				return
			}
			end += size
			if !yield(end, payload) {
				return
			}
		}
	}
}

// Count is how many there are, and where the last one ends.
func Count(b []byte) (int, int) {
	count, last := 0, 0
	for end := range All(b) {
		count++
		last = end
	}
	return count, last
}
