package queue_test

import (
	"fmt"
	"math/rand"
	"testing"

	"cloister/api"
	"cloister/queue"
)

// same holds an answer against what is wanted.
func same[A comparable](t *testing.T, what string, got, want A) {
	t.Helper()
	if got != want {
		t.Errorf("%.300s: got %.300s, want %.300s", what, fmt.Sprint(got), fmt.Sprint(want))
	}
}

// made is a queue of a size that New must take.
func made[T any](t *testing.T, most int) *queue.Queue[T] {
	t.Helper()
	q, code := queue.New[T](most)
	if code != api.OK || q == nil {
		t.Fatalf("New(%d): got %v, %v", most, q, code)
	}
	return q
}

// filled is a queue of a size into which things are pushed, all of which it must take.
func filled[T any](t *testing.T, most int, things ...T) *queue.Queue[T] {
	t.Helper()
	q := made[T](t, most)
	for _, x := range things {
		if code := q.Push(x); code != api.OK {
			t.Fatalf("Push of %.300s: got %v", fmt.Sprint(x), code)
		}
	}
	return q
}

// upTo is the numbers from 0 on, so many.
func upTo(n int) (all []int) {
	for i := range n {
		all = append(all, i)
	}
	return all
}

// walked is what a walk goes through; a walk beyond any queue's size is given up.
func walked[T any](t *testing.T, q *queue.Queue[T]) (things []T) {
	t.Helper()
	for i, x := range q.All() {
		if i != len(things) {
			t.Fatalf("a walk: the number %d of the thing %d", i, len(things))
		}
		if len(things) > 70000 {
			t.Fatal("a walk without an end")
		}
		things = append(things, x)
	}
	return things
}

// samePop holds what Pop answers against what is wanted.
func samePop[T comparable](t *testing.T, what string, q *queue.Queue[T], want T, is bool) {
	t.Helper()
	got, has := q.Pop()
	if got != want || has != is {
		t.Errorf("%s: Pop: got %v %v, want %v %v", what, got, has, want, is)
	}
}

// holds holds all that a queue tells against the things that it must hold; it asks each twice, since asking must change nothing.
func holds[T comparable](t *testing.T, what string, q *queue.Queue[T], want []T) {
	t.Helper()
	for range 2 {
		same(t, what+": Len", q.Len(), len(want))
		var first T
		if len(want) > 0 {
			first = want[0]
		}
		got, is := q.First()
		same(t, what+": First", got, first)
		same(t, what+": is there a First", is, len(want) > 0)
		all := walked(t, q)
		same(t, what+": All", fmt.Sprint(all), fmt.Sprint(want))
	}
}

// paper is a queue as the chapter's words have it: a size, a row of things.
type paper[T any] struct {
	most int
	row  []T
}

func (p *paper[T]) push(x T) api.Errno {
	if len(p.row) == p.most {
		return api.ErrFull
	}
	p.row = append(p.row, x)
	return api.OK
}

func (p *paper[T]) pop() (x T, is bool) {
	if len(p.row) == 0 {
		return x, false
	}
	x = p.row[0]
	p.row = append([]T(nil), p.row[1:]...)
	return x, true
}

// step does one call by chance to a queue and to its paper, and holds the answers against each other; lean says of 8 calls how many are Pushs.
func step(t *testing.T, r *rand.Rand, lean int, next *int, q *queue.Queue[int], p *paper[int]) {
	t.Helper()
	if r.Intn(8) < lean {
		*next++
		same(t, "Push", q.Push(*next), p.push(*next))
	} else {
		want, is := p.pop()
		samePop(t, "a row of calls", q, want, is)
	}
	same(t, "Len", q.Len(), len(p.row))
}
