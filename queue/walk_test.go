package queue_test

import (
	"fmt"
	"testing"

	"cloister/api"
	"cloister/queue"
)

// turned is a queue that holds so many things, 0 and on, and has had others before, so that the things lie across the place where a ring would begin anew.
func turned(t *testing.T, most, before, n int) *queue.Queue[int] {
	t.Helper()
	q := made[int](t, most)
	for i := range before {
		same(t, "Push", q.Push(-i-1), api.OK)
		samePop(t, "one that came before", q, -i-1, true)
	}
	for i := range n {
		same(t, "Push", q.Push(i), api.OK)
	}
	return q
}

// P5.5: the things with their numbers, wherever they lie.
func TestAll(t *testing.T) {
	for most := range 10 {
		for before := range 12 {
			if most == 0 && before > 0 {
				continue
			}
			for n := range most + 1 {
				q := turned(t, most, before, n)
				same(t, "All", fmt.Sprint(walked(t, q)), fmt.Sprint(upTo(n)))
				holds(t, "behind a walk", q, upTo(n))
			}
		}
	}
}

// P5.5: a walk that is left early goes no further, and changes nothing; the next one begins anew.
func TestAllLeftEarly(t *testing.T) {
	for n := range 8 {
		for leave := range n {
			q := turned(t, 8, 3, n)
			all := q.All()
			for range 3 {
				steps := 0
				all(func(i, x int) bool {
					same(t, "the number", i, steps)
					same(t, "the thing", x, steps)
					steps++
					return i != leave
				})
				same(t, "steps of a walk that was left", steps, leave+1)
				holds(t, "behind a walk that was left", q, upTo(n))
			}
		}
	}
}

// P5.5: what All answered is gone through again and again, each time through what the queue holds when that begins.
func TestAllBegunAnew(t *testing.T) {
	q := made[int](t, 3)
	all := q.All()
	told := func() (things []int) {
		for i, x := range all {
			same(t, "the number", i, len(things))
			things = append(things, x)
		}
		return things
	}
	sees := func(want ...int) {
		t.Helper()
		for range 2 {
			same(t, "the walk", fmt.Sprint(told()), fmt.Sprint(want))
		}
	}
	sees()
	q.Push(1)
	sees(1)
	q.Push(2)
	q.Push(3)
	q.Push(4)
	sees(1, 2, 3)
	q.Pop()
	sees(2, 3)
	q.Push(5)
	sees(2, 3, 5)
	q.Clear()
	sees()
	q.Push(6)
	sees(6)
}

// P5.5: walks within one another, of one All and of two.
func TestAllWithin(t *testing.T) {
	q := turned(t, 4, 3, 4)
	all := q.All()
	var pairs []int
	for i, x := range all {
		for j, y := range all {
			pairs = append(pairs, i, x, j, y)
			if j == 2 {
				break
			}
		}
		same(t, "another walk within", fmt.Sprint(walked(t, q)), fmt.Sprint(upTo(4)))
	}
	var want []int
	for i := range 4 {
		for j := range 3 {
			want = append(want, i, i, j, j)
		}
	}
	same(t, "walks within one another", fmt.Sprint(pairs), fmt.Sprint(want))
}

// P5.5: walks within one another, between which the queue goes on: each goes through what was there when it began.
func TestAllWithinGoesOn(t *testing.T) {
	q := filled(t, 3, 10, 11, 12)
	all := q.All()
	var outer []int
	var inner []string
	for _, x := range all {
		outer = append(outer, x)
		q.Pop()
		q.Push(x + 10)
		var one []int
		for _, y := range all {
			one = append(one, y)
			q.Pop()
			q.Push(y)
		}
		inner = append(inner, fmt.Sprint(one))
	}
	same(t, "the outer walk", fmt.Sprint(outer), "[10 11 12]")
	same(t, "the inner walks", fmt.Sprint(inner), "[[11 12 20] [12 20 21] [20 21 22]]")
}

// P5.5: what becomes of the queue in the midst of a walk changes nothing of that walk.
func TestAllWhileItGoesOn(t *testing.T) {
	changes := map[string]func(q *queue.Queue[int]){
		"popped":             func(q *queue.Queue[int]) { q.Pop() },
		"pushed":             func(q *queue.Queue[int]) { q.Push(77) },
		"popped and pushed":  func(q *queue.Queue[int]) { q.Pop(); q.Push(78) },
		"cleared":            func(q *queue.Queue[int]) { q.Clear() },
		"cleared and pushed": func(q *queue.Queue[int]) { q.Clear(); q.Push(79); q.Push(80) },
		"popped and pushed until all is new": func(q *queue.Queue[int]) {
			for range 20 {
				q.Pop()
				q.Push(81)
			}
		},
	}
	for what, change := range changes {
		for n := range 7 {
			for at := range n + 1 {
				for before := range 8 {
					q := turned(t, 7, before, n)
					var things []int
					for i, x := range q.All() {
						if len(things) > 100 {
							t.Fatal("a walk without an end: ", what)
						}
						same(t, what+": the number", i, len(things))
						things = append(things, x)
						if i >= at {
							change(q)
						}
					}
					same(t, what, fmt.Sprint(things), fmt.Sprint(upTo(n)))
				}
			}
		}
	}
}

// P5.5: a walk that has begun with nothing goes through nothing, and one that pushes in its midst ends.
func TestAllEnds(t *testing.T) {
	q := filled(t, 65536, 1)
	steps := 0
	for range q.All() {
		steps++
		q.Push(2)
		if steps > 10 {
			break
		}
	}
	same(t, "steps", steps, 1)
	same(t, "Len", q.Len(), 2)
}

// P5.5: of a queue that is a zero value and of one that is not there nothing is gone through, again and again.
func TestAllOfNone(t *testing.T) {
	var zero queue.Queue[int]
	for _, q := range []*queue.Queue[int]{nil, &zero, made[int](t, 5)} {
		all := q.All()
		for range 3 {
			for i, x := range all {
				t.Error("a walk through nothing:", i, x)
			}
		}
	}
}
