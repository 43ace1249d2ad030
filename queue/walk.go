package queue

import "iter"

// All goes through them, the first one first. Each walk has a line of its own, since the queue may go on in the midst of it.
func (q *Queue[T]) All() iter.Seq2[int, T] {
	return func(yield func(int, T) bool) {
		if q.Len() == 0 {
			return
		}
		for i, x := range q.line(q.count) {
			if !yield(i, x) {
				return
			}
		}
	}
}

// line is the things in new memory of a given length, at least as long as they are many, the first one first.
func (q *Queue[T]) line(length int) []T {
	things := make([]T, length)
	ahead := copy(things[:q.count], q.ring[q.first:])
	copy(things[ahead:q.count], q.ring)
	return things
}
