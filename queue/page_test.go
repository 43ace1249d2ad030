package queue_test

import (
	"fmt"
	"math"
	"testing"

	"cloister/api"
	"cloister/queue"
)

// Words: lists are handed on as they are: the very same one, spare room too.
func TestLists(t *testing.T) {
	room := []int{1, 2, 3, 4}
	q := filled(t, 3, room[:2], nil, []int{})
	first, is := q.First()
	same(t, "is there a First", is, true)
	same(t, "First's memory", &first[0], &room[0])
	same(t, "First's length and room", fmt.Sprint(len(first), cap(first)), fmt.Sprint(2, cap(room)))
	room[1] = 9
	for i, list := range q.All() {
		if i == 0 {
			same(t, "a walk's memory", &list[0], &room[0])
			same(t, "a walk's thing", list[1], 9)
		}
	}
	got, _ := q.Pop()
	same(t, "Pop's memory", &got[1], &room[1])
	same(t, "Pop's room", cap(got), cap(room))
	got, is = q.Pop()
	same(t, "none is handed on as none", got == nil && is, true)
	got, is = q.Pop()
	same(t, "an empty one is handed on as an empty one", got != nil && is, true)
	got, is = q.Pop()
	same(t, "beside a false", got == nil && !is, true)
	same(t, "what the lists hold", fmt.Sprint(room), "[1 9 3 4]")
}

// Words: pointers are handed on as they are; the same one twice too, and one that points to nothing.
func TestPointers(t *testing.T) {
	a, b := &api.Request{Kind: api.Get, Key: "a"}, &api.Request{Kind: api.Get, Key: "a"}
	q := filled(t, 4, a, b, a, nil)
	a.Key = "c"
	holds(t, "pointers", q, []*api.Request{a, b, a, nil})
	samePop(t, "a pointer", q, a, true)
	samePop(t, "another one", q, b, true)
	samePop(t, "the first one again", q, a, true)
	samePop(t, "one to nothing", q, nil, true)
	samePop(t, "none", q, nil, false)
	same(t, "what its owner did", a.Key, "c")
}

// Words: texts, structs, arrays, interfaces, channels and functions.
func TestOtherKinds(t *testing.T) {
	handedOn(t, "", "a", "a\x00b", "\xff\xfe", string(make([]byte, 5000)))
	handedOn(t, api.Handle{Life: 1, Number: 2}, api.Handle{}, api.Handle{Number: -1})
	handedOn(t, [3]int{1, 2, 3}, [3]int{})
	handedOn[any](t, 1, "a", nil, 1.5, api.Handle{Life: 3})
	handedOn[error](t, api.ErrFull, nil, api.OK)
	handedOn(t, struct{}{}, struct{}{})
	handedOn(t, math.MaxInt64, math.MinInt64, 0)
	handedOn(t, make(chan int), nil, make(chan int))
	q := filled(t, 2, func() int { return 3 }, nil)
	f, _ := q.Pop()
	same(t, "a function", f(), 3)
	f, is := q.Pop()
	same(t, "none", f == nil && is, true)
}

// handedOn pushes things many times over, and pops them again.
func handedOn[T comparable](t *testing.T, things ...T) {
	t.Helper()
	q := made[T](t, len(things)+1)
	for range 5 {
		for _, x := range things {
			same(t, "Push", q.Push(x), api.OK)
		}
		holds(t, "things of other kinds", q, things)
		for _, x := range things {
			samePop(t, "things of other kinds", q, x, true)
		}
		var zero T
		samePop(t, "none of other kinds", q, zero, false)
	}
}

// Things that are no numbers are handed on too, though they are not like themselves.
func TestNotLikeThemselves(t *testing.T) {
	q := filled(t, 2, math.NaN(), math.NaN())
	x, is := q.First()
	same(t, "First", is && math.IsNaN(x), true)
	x, is = q.Pop()
	same(t, "Pop", is && math.IsNaN(x), true)
	same(t, "Len", q.Len(), 1)
}

// W0: a copy of a queue, and the queue it was copied from, go on without a panic, whatever becomes of the other.
func TestCopies(t *testing.T) {
	for n := range 9 {
		for before := range 9 {
			q := turned(t, 8, before, n)
			other := *q
			for i := range 30 {
				q.Push(i)
				other.Pop()
				other.First()
				if i%3 == 0 {
					q.Pop()
					other.Push(i)
				}
				if i == 15 {
					q.Clear()
				}
				walked(t, &other)
				walked(t, q)
			}
		}
	}
}

// A queue may hold queues, itself among them.
func TestQueuesInQueues(t *testing.T) {
	type knot struct{ q *queue.Queue[any] }
	q := made[any](t, 2)
	same(t, "Push", q.Push(knot{q}), api.OK)
	same(t, "Push", q.Push(q), api.OK)
	x, _ := q.Pop()
	same(t, "itself", x, any(knot{q}))
	same(t, "Len", x.(knot).q.Len(), 1)
}

// The chapter's examples.
func TestExamples(t *testing.T) {
	_, code := queue.New[int](-1)
	same(t, "New(-1)", code, api.ErrArg)
	_, code = queue.New[int](65537)
	same(t, "New(65537)", code, api.ErrLarge)
	q := made[int](t, 0)
	same(t, "Push to the size 0", q.Push(1), api.ErrFull)
	same(t, "Len of the size 0", q.Len(), 0)

	q = made[int](t, 2)
	samePop(t, "the size 2", q, 0, false)
	holds(t, "the size 2", q, nil)
	same(t, "Push(7)", q.Push(7), api.OK)
	same(t, "Push(8)", q.Push(8), api.OK)
	same(t, "Push(9)", q.Push(9), api.ErrFull)
	holds(t, "two things", q, []int{7, 8})
	samePop(t, "two things", q, 7, true)
	same(t, "Push(9) again", q.Push(9), api.OK)
	holds(t, "then", q, []int{8, 9})

	var walk []int
	for i, x := range q.All() {
		walk = append(walk, i, x)
		if i == 0 {
			samePop(t, "within a walk", q, 8, true)
			same(t, "Push(1) within a walk", q.Push(1), api.OK)
			same(t, "Push(2) within a walk", q.Push(2), api.ErrFull)
		}
	}
	same(t, "the walk", fmt.Sprint(walk), "[0 8 1 9]")

	q.Clear()
	holds(t, "Clear", q, nil)
	same(t, "Push(5)", q.Push(5), api.OK)
	samePop(t, "behind Clear", q, 5, true)
	samePop(t, "behind Clear", q, 0, false)

	var zero queue.Queue[string]
	same(t, "Push to the zero value", zero.Push("a"), api.ErrFull)
	same(t, "Len of the zero value", zero.Len(), 0)
	samePop(t, "the zero value", &zero, "", false)
}
