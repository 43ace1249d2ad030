package queue_test

import (
	"fmt"
	"math/rand"
	"runtime"
	"testing"
	"time"
	"weak"

	"cloister/api"
	"cloister/queue"
)

// P5.8, P5.9: over rows of calls by chance, now leaning to Pushs and now to Pops, a queue is what the chapter's words say.
func TestRowsOfCalls(t *testing.T) {
	r := rand.New(rand.NewSource(5))
	for _, most := range []int{0, 1, 2, 3, 4, 5, 7, 8, 9, 16, 31, 64, 100} {
		for range 4 {
			q, p, next := made[int](t, most), &paper[int]{most: most}, 0
			for i := range 1500 {
				step(t, r, 2+i/100%5, &next, q, p)
				if i%20 == 0 {
					holds(t, "in the midst of a row of calls", q, p.row)
				}
			}
			if t.Failed() {
				t.Fatal("the size was ", most)
			}
		}
	}
}

// P5.8: what was popped and what is left are what the Pushs that were OK laid, in that order; P5.9: Push is refused just if Len is the size.
func TestOrderStays(t *testing.T) {
	r := rand.New(rand.NewSource(58))
	for _, most := range []int{1, 2, 3, 6, 13, 1000} {
		q := made[int](t, most)
		var laid, popped []int
		for i := range 6000 {
			if r.Intn(2) == 0 {
				full := q.Len() == most
				code := q.Push(i)
				same(t, "refused", code == api.ErrFull, full)
				if code == api.OK {
					laid = append(laid, i)
				}
			} else if x, is := q.Pop(); is {
				popped = append(popped, x)
			}
			if n := q.Len(); n < 0 || n > most || n != len(laid)-len(popped) {
				t.Fatalf("the size %d: Len is %d, laid %d, popped %d", most, n, len(laid), len(popped))
			}
		}
		same(t, "popped, then what is left", fmt.Sprint(append(popped, walked(t, q)...)), fmt.Sprint(laid))
	}
}

// P5.8: things in every number, across every place where a ring would begin anew.
func TestAcrossTheRing(t *testing.T) {
	for most := 1; most < 18; most++ {
		for n := 1; n <= most; n++ {
			q, next, gone := made[int](t, most), 0, 0
			for range 5 * most {
				for q.Len() < n {
					same(t, "Push", q.Push(next), api.OK)
					next++
				}
				samePop(t, "across the ring", q, gone, true)
				gone++
			}
			same(t, "what is left", fmt.Sprint(walked(t, q)), fmt.Sprint(upTo(next)[gone:]))
		}
	}
}

// P5.8: a queue that grows while its things lie across the place where a ring would begin anew.
func TestGrowsTurned(t *testing.T) {
	for before := range 40 {
		for held := range 40 {
			q := made[int](t, 64)
			for i := range held {
				q.Push(i)
			}
			for i := range before {
				q.Push(held + i)
				samePop(t, "one in turns", q, i, true)
			}
			for i := range 64 - held {
				same(t, "Push", q.Push(held+before+i), api.OK)
			}
			same(t, "Push of one more", q.Push(-1), api.ErrFull)
			same(t, "what is left", fmt.Sprint(walked(t, q)), fmt.Sprint(upTo(64 + before)[before:]))
		}
	}
}

// P5.10: two queues, and others, in turns, know nothing of each other.
func TestApart(t *testing.T) {
	r := rand.New(rand.NewSource(510))
	var queues []*queue.Queue[int]
	var papers []*paper[int]
	for _, most := range []int{3, 3, 5, 1, 0, 64} {
		queues, papers = append(queues, made[int](t, most)), append(papers, &paper[int]{most: most})
	}
	next := 0
	for i := range 6000 {
		at := r.Intn(len(queues))
		step(t, r, 2+i/100%5, &next, queues[at], papers[at])
		if r.Intn(100) == 0 {
			queues[at].Clear()
			papers[at].row = nil
		}
		if i%10 == 0 {
			for at, q := range queues {
				holds(t, "queues in turns", q, papers[at].row)
			}
		}
	}
}

// P5.10: things that go from one queue to another, in the midst of a walk too.
func TestHandedOver(t *testing.T) {
	from, to := filled(t, 5, upTo(5)...), made[int](t, 3)
	var codes []api.Errno
	for _, x := range from.All() {
		codes = append(codes, to.Push(x))
		from.Pop()
	}
	same(t, "codes", fmt.Sprint(codes), fmt.Sprint([]api.Errno{0, 0, 0, api.ErrFull, api.ErrFull}))
	holds(t, "the one", from, nil)
	holds(t, "the other one", to, upTo(3))
}

// inTurns pushes and pops so many times.
func inTurns(t *testing.T, q *queue.Queue[int], turns int) {
	t.Helper()
	for i := range turns {
		_, is := q.Pop()
		if !is || q.Push(i) != api.OK {
			t.Fatal("in turns")
		}
	}
}

// P5.11: calls take as long of a full queue of the greatest size as of one that holds a few things. (A call that went through the things would take some thousand times as long.)
func TestCost(t *testing.T) {
	few, many := filled(t, 8, upTo(4)...), filled(t, 65536, upTo(65536)...)
	taken := func(q *queue.Queue[int]) time.Duration {
		begin := time.Now()
		inTurns(t, q, 20000)
		for range 20000 {
			q.First()
			q.Len()
		}
		return time.Since(begin) + time.Microsecond
	}
	for range 5 {
		if taken(many) < 100*taken(few) {
			return
		}
	}
	t.Error("of many things the calls take far longer")
}

// P5.11: room is made but now and then while a queue of the greatest size fills.
func TestCostOfGrowing(t *testing.T) {
	times := testing.AllocsPerRun(3, func() {
		q, _ := queue.New[int](65536)
		for i := range 65536 {
			q.Push(i)
		}
	})
	if times > 300 {
		t.Errorf("room was made %v times", times)
	}
}

// room is how many bytes are in use once all that is not held on to has gone.
func room() int {
	var seen runtime.MemStats
	runtime.GC()
	runtime.GC()
	runtime.ReadMemStats(&seen)
	return int(seen.HeapAlloc)
}

// P5.11: pushed and popped in turns many times, a queue takes no more room than its size asks for.
func TestRoom(t *testing.T) {
	for _, most := range []int{1, 2, 3, 100} {
		for _, held := range []int{1, most} {
			before := room()
			q := filled(t, most, upTo(held)...)
			inTurns(t, q, 1000000)
			if more := room() - before; more > 500000 {
				t.Errorf("the size %d: %d bytes more are in use", most, more)
			}
			runtime.KeepAlive(q)
		}
	}
}

// P5.11: neither has a queue of the greatest size more room than its size asks for, nor an empty one of it room that nothing needs.
func TestRoomOfTheGreatest(t *testing.T) {
	before := room()
	var all []*queue.Queue[int]
	for range 3 {
		all = append(all, made[int](t, 65536))
	}
	if more := room() - before; more > 3*65536*8+200000 {
		t.Errorf("three empty queues: %d bytes more are in use", more)
	}
	for _, q := range all {
		for i := range 65536 {
			q.Push(i)
		}
		inTurns(t, q, 1000)
	}
	if more := room() - before; more > 3*65536*8+200000 {
		t.Errorf("three full queues: %d bytes more are in use", more)
	}
	runtime.KeepAlive(all)
}

// big is a thing in memory of its own (small ones share theirs with others, and would stay with them).
type big [100]int

// watched is a queue into which things have been pushed, and how each is looked after without holding on to it.
func watched(t *testing.T, most, n int) (*queue.Queue[*big], []weak.Pointer[big]) {
	q := made[*big](t, most)
	var marks []weak.Pointer[big]
	for i := range n {
		x := &big{i}
		marks = append(marks, weak.Make(x))
		same(t, "Push", q.Push(x), api.OK)
	}
	return q, marks
}

// kept is how many of the marked things are held on to.
func kept(marks []weak.Pointer[big]) (n int) {
	runtime.GC()
	runtime.GC()
	for _, m := range marks {
		if m.Value() != nil {
			n++
		}
	}
	return n
}

// Ways: of what was popped nothing is kept.
func TestNothingKeptBehindPop(t *testing.T) {
	for _, n := range []int{1, 2, 3, 4, 7, 20} {
		q, marks := watched(t, 20, n)
		same(t, "held", kept(marks), n)
		for i := range n {
			q.Pop()
			same(t, "held behind Pops", kept(marks), n-i-1)
		}
		runtime.KeepAlive(q)
	}
}

// Ways: of what was cleared nothing is kept, nor of what a walk went through.
func TestNothingKeptBehindClear(t *testing.T) {
	q, marks := watched(t, 20, 13)
	q.Pop()
	all := q.All()
	for i := range all {
		if i == 5 {
			break
		}
	}
	same(t, "held", kept(marks), 12)
	q.Clear()
	same(t, "held behind Clear", kept(marks), 0)
	runtime.KeepAlive(q)
	runtime.KeepAlive(all)
}

// Ways: of a Push that was refused nothing is kept.
func TestNothingKeptBehindRefusal(t *testing.T) {
	q, marks := watched(t, 2, 2)
	func() {
		x := &big{9}
		marks = append(marks, weak.Make(x))
		same(t, "Push", q.Push(x), api.ErrFull)
	}()
	same(t, "held", kept(marks), 2)
	runtime.KeepAlive(q)
}
