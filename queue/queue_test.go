package queue_test

import (
	"math"
	"testing"

	"cloister/api"
	"cloister/queue"
)

// P5.1: sizes that no queue has.
func TestNewRefused(t *testing.T) {
	for _, most := range []int{-1, -2, -65536, -65537, math.MinInt, math.MinInt + 1, -1 << 32} {
		q, code := queue.New[int](most)
		same(t, "a size below 0", code, api.ErrArg)
		same(t, "beside an error", q, nil)
	}
	for _, most := range []int{65537, 65538, 1 << 17, 1<<32 + 1, math.MaxInt, math.MaxInt - 1} {
		q, code := queue.New[string](most)
		same(t, "a size above 65536", code, api.ErrLarge)
		same(t, "beside an error", q, nil)
	}
}

// P5.1: a new queue holds nothing.
func TestNewHoldsNothing(t *testing.T) {
	for _, most := range []int{0, 1, 2, 3, 64, 65535, 65536} {
		q := made[int](t, most)
		holds(t, "a new queue", q, nil)
		samePop(t, "a new queue", q, 0, false)
		texts := made[string](t, most)
		holds(t, "a new queue of texts", texts, nil)
		samePop(t, "a new queue of texts", texts, "", false)
	}
}

// P5.2, P5.9: a queue takes as many things as its size, and refuses the next one, which changes nothing.
func TestPushUntilFull(t *testing.T) {
	for most := range 70 {
		q := made[int](t, most)
		for i := range most {
			same(t, "Len ahead of a Push", q.Len(), i)
			same(t, "Push", q.Push(i), api.OK)
			holds(t, "in the midst", q, upTo(i+1))
		}
		for range 3 {
			same(t, "Push of one more", q.Push(-1), api.ErrFull)
			holds(t, "a full queue", q, upTo(most))
		}
	}
}

// P5.1, P5.2, Limits: the greatest size, and those beside it.
func TestPushUntilFullOfTheGreatest(t *testing.T) {
	for _, most := range []int{32767, 32768, 65535, 65536} {
		q := made[int](t, most)
		for i := range most {
			if code := q.Push(i); code != api.OK || q.Len() != i+1 {
				t.Fatalf("the size %d: Push of the thing %d: got %v, then Len %d", most, i, code, q.Len())
			}
		}
		same(t, "Push of one more", q.Push(-1), api.ErrFull)
		holds(t, "a full queue", q, upTo(most))
		for i := range most {
			if x, is := q.Pop(); x != i || !is || q.Len() != most-i-1 {
				t.Fatalf("the size %d: Pop of the thing %d: got %d %v, then Len %d", most, i, x, is, q.Len())
			}
		}
		holds(t, "an empty queue", q, nil)
	}
}

// P5.2: a full queue from which one is popped takes just one more.
func TestPushBehindPop(t *testing.T) {
	for most := 1; most < 20; most++ {
		q := filled(t, most, upTo(most)...)
		for i := range 3 * most {
			same(t, "Push to a full queue", q.Push(-1), api.ErrFull)
			samePop(t, "a full queue", q, i, true)
			same(t, "Push to one that has room", q.Push(most+i), api.OK)
			same(t, "Push to one that is full again", q.Push(-1), api.ErrFull)
			same(t, "Len", q.Len(), most)
		}
	}
}

// P5.2, Words: a queue of the size 0, and the zero value, which is one.
func TestSizeNought(t *testing.T) {
	var zero queue.Queue[int]
	for _, q := range []*queue.Queue[int]{made[int](t, 0), &zero, {}} {
		for range 2 {
			holds(t, "the size 0", q, nil)
			samePop(t, "the size 0", q, 0, false)
			same(t, "Push", q.Push(1), api.ErrFull)
			holds(t, "the size 0 behind a Push", q, nil)
			samePop(t, "the size 0 behind a Push", q, 0, false)
			q.Clear()
		}
	}
}

// P5.3: Pop takes the first thing away, and nothing from an empty queue.
func TestPop(t *testing.T) {
	for n := range 20 {
		q := filled(t, 20, upTo(n)...)
		for i := range n {
			samePop(t, "a queue that holds things", q, i, true)
			holds(t, "behind a Pop", q, upTo(n)[i+1:])
		}
		for range 3 {
			samePop(t, "an empty queue", q, 0, false)
			holds(t, "an empty queue behind a Pop", q, nil)
		}
		same(t, "Push behind it", q.Push(5), api.OK)
		samePop(t, "behind it", q, 5, true)
	}
}

// P5.3: a thing that is the zero value is there all the same.
func TestZeroThings(t *testing.T) {
	q := filled(t, 3, "", "", "a")
	got, is := q.First()
	same(t, "First", got, "")
	same(t, "is there a First", is, true)
	samePop(t, "the first empty text", q, "", true)
	samePop(t, "the second empty text", q, "", true)
	samePop(t, "the text behind them", q, "a", true)
	samePop(t, "nothing", q, "", false)
}

// P5.3: First changes nothing, however often it is asked.
func TestFirst(t *testing.T) {
	q := made[int](t, 4)
	for i := range 50 {
		for range 5 {
			x, is := q.First()
			same(t, "First of an empty queue", x, 0)
			same(t, "First of an empty queue", is, false)
		}
		same(t, "Push", q.Push(i+1), api.OK)
		same(t, "Push", q.Push(i+2), api.OK)
		for range 5 {
			x, is := q.First()
			same(t, "First", x, i+1)
			same(t, "First", is, true)
			same(t, "Len behind First", q.Len(), 2)
		}
		samePop(t, "behind First", q, i+1, true)
		x, _ := q.First()
		same(t, "First behind Pop", x, i+2)
		samePop(t, "behind First", q, i+2, true)
	}
}

// P5.6: Clear of any queue; its size stays, and it goes on as a new one.
func TestClear(t *testing.T) {
	for most := range 12 {
		for n := range most + 1 {
			for gone := range n + 1 {
				q := filled(t, most, upTo(n)...)
				for range gone {
					q.Pop()
				}
				q.Clear()
				holds(t, "behind Clear", q, nil)
				samePop(t, "behind Clear", q, 0, false)
				q.Clear()
				for i := range most {
					same(t, "Push behind Clear", q.Push(i+100), api.OK)
				}
				same(t, "Push of one more behind Clear", q.Push(-1), api.ErrFull)
				for i := range most {
					samePop(t, "what was pushed behind Clear", q, i+100, true)
				}
				samePop(t, "nothing", q, 0, false)
			}
		}
	}
}

// P5.7: each call of a queue that is not there.
func TestNone(t *testing.T) {
	noneOf(t, 7)
	noneOf(t, "a")
	noneOf(t, struct{}{})
	noneOf(t, &struct{ x int }{3})
	noneOf[any](t, 1.5)
}

func noneOf[T comparable](t *testing.T, x T) {
	t.Helper()
	var none *queue.Queue[T]
	var zero T
	for range 2 {
		holds(t, "none", none, nil)
		samePop(t, "none", none, zero, false)
		same(t, "Push", none.Push(x), api.ErrNil)
		none.Clear()
	}
	if none.All() == nil {
		t.Error("All of none is no walk")
	}
}
