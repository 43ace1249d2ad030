package lanes_test

import (
	"fmt"
	"runtime"
	"strconv"
	"testing"
	"weak"

	"cloister/api"
	"cloister/lanes"
)

// roomy is a list of so many numbers with spare room behind it, and the whole of that memory.
func roomy(numbers, spare int) (list, whole []int) {
	whole = upTo(numbers + spare)
	return whole[:numbers], whole
}

// spoil writes over all of a list's memory, spare room too.
func spoil(list []int) {
	list = list[:cap(list)]
	for i := range list {
		list[i] = -777
	}
}

// apart holds that a list that was answered shares no memory with those that were handed in: what is done to the one is not seen in the others.
func apart(t *testing.T, what string, answer []int, wholes ...[]int) {
	t.Helper()
	before := fmt.Sprint(wholes)
	told := append([]int(nil), answer...)
	spare := append([]int(nil), answer[:cap(answer)]...)
	for _, whole := range wholes {
		kept := append([]int(nil), whole...)
		spoil(whole)
		sameList(t, what+": the answer, when what was handed in is changed", answer, told)
		sameList(t, what+": the answer's spare room", answer[:cap(answer)], spare)
		copy(whole, kept)
	}
	spoil(answer)
	same(t, what+": what was handed in, when the answer is changed", fmt.Sprint(wholes), before)
}

// P6.8: Map's and Gather's items are not changed, spare room included, and the answer is new memory.
func TestItemsStay(t *testing.T) {
	for _, n := range []int{0, 1, 2, 5, 100} {
		for _, workers := range []int{1, 3, 64} {
			items, whole := roomy(n, 9)
			got, code := lanes.Map(items, workers, func(a int) int { return a })
			same(t, "Map", code, api.OK)
			sameList(t, "Map's items and their room", whole, upTo(n+9))
			apart(t, "Map", got, whole)
			got, _, code = lanes.Gather(items, workers, func(i, a int) (int, api.Errno) { return a, api.OK })
			same(t, "Gather", code, api.OK)
			sameList(t, "Gather's items and their room", whole, upTo(n+9))
			apart(t, "Gather", got, whole)
			lanes.Gather(items, workers, func(i, a int) (int, api.Errno) { return -a, api.ErrFull })
			sameList(t, "Gather's items and their room, with an error", whole, upTo(n+9))
		}
	}
}

// P6.8: two answers share no memory.
func TestAnswersApart(t *testing.T) {
	items := upTo(40)
	one, _ := lanes.Map(items, 8, func(a int) int { return a })
	other, _ := lanes.Map(items, 8, func(a int) int { return a })
	apart(t, "two of Map", one, other)
	one, _, _ = lanes.Gather(items, 8, func(i, a int) (int, api.Errno) { return a, api.OK })
	other, _, _ = lanes.Gather(items, 8, func(i, a int) (int, api.Errno) { return a, api.OK })
	apart(t, "two of Gather", one, other)
	for _, order := range []func(a, b int) int{nil, func(a, b int) int { return a - b }} {
		one, other = lanes.Merge(order, items), lanes.Merge(order, items)
		apart(t, "two of Merge", one, other)
	}
}

// P6.8: Merge's lists are not changed, spare room included, nor is the list of the lists; the answer is new memory, of one list too.
func TestListsStay(t *testing.T) {
	for name, order := range map[string]func(a, b int) int{
		"by number": func(a, b int) int { return a - b }, "without an order": nil,
		"always below": func(a, b int) int { return -1 }, "always above": func(a, b int) int { return 1 },
	} {
		for _, counts := range [][]int{{0}, {1}, {5}, {3, 0, 2}, {0, 0, 7}, {4, 4, 4, 4}, {9, 0, 0}} {
			room := make([][]int, len(counts), len(counts)+3) // the list of the lists has spare room too
			var wholes [][]int
			for at, n := range counts {
				list, whole := roomy(n, 6)
				room[at], wholes = list, append(wholes, whole)
			}
			room[:cap(room)][len(counts)] = []int{5}
			what := fmt.Sprint("Merge ", name, " of ", counts)
			got := lanes.Merge(order, room...)
			for at, n := range counts {
				sameList(t, what+": a list and its room", wholes[at], upTo(n+6))
				same(t, what+": a list's length", len(room[at]), n)
				same(t, what+": a list's room", cap(room[at]), n+6)
				same(t, what+": a list's memory", &room[at][:1][0], &wholes[at][0])
			}
			same(t, what+": the lists behind them", fmt.Sprint(room[len(counts):cap(room)]), "[[5] [] []]")
			apart(t, what, got, wholes...)
		}
	}
}

// P6.8: one list that is handed in several times, and lists that lie in one memory.
func TestListsThatShare(t *testing.T) {
	whole := upTo(6)
	numbers := func(a, b int) int { return a - b }
	sameList(t, "the same list twice", lanes.Merge(numbers, whole[:3], whole[:3]), []int{0, 0, 1, 1, 2, 2})
	sameList(t, "lists in one memory", lanes.Merge(numbers, whole[3:], whole[1:4], whole[:2]), []int{0, 1, 1, 2, 3, 3, 4, 5})
	sameList(t, "without an order", lanes.Merge(nil, whole[:2], whole[1:3]), []int{0, 1, 1, 2})
	sameList(t, "their memory", whole, upTo(6))
}

// big is a thing in memory of its own (small ones share theirs with others, and would stay with them).
type big [100]int

// P6.8: behind the calls nothing is held on to, if they end with an error too.
func TestNothingIsKept(t *testing.T) {
	var marks []weak.Pointer[big]
	func() {
		var items []*big
		for i := range 50 {
			items = append(items, &big{i})
			marks = append(marks, weak.Make(items[i]))
		}
		lanes.Map(items, 8, func(a *big) *big { return a })
		lanes.Gather(items, 8, func(i int, a *big) (*big, api.Errno) { return a, api.Errno(i / 20) })
		lanes.Gather(items, 65, func(i int, a *big) (*big, api.Errno) { return a, api.OK })
		lanes.Merge(func(a, b *big) int { return a[0] - b[0] }, items, items)
		lanes.Merge(nil, items, items)
	}()
	kept := len(marks)
	for try := 0; kept > 0 && try < 20; try++ {
		runtime.GC()
		kept = 0
		for _, mark := range marks {
			if mark.Value() != nil {
				kept++
			}
		}
	}
	same(t, "things that are held on to", kept, 0)
}

// Limits: 1 to 64 workers are taken, no others.
func TestLimits(t *testing.T) {
	for workers := -70; workers <= 140; workers++ {
		code := api.ErrArg
		if workers >= 1 && workers <= 64 {
			code = api.OK
		}
		what := strconv.Itoa(workers) + " workers"
		got, errno := lanes.Map([]int{1, 2}, workers, func(a int) int { return a })
		same(t, "Map by "+what, errno, code)
		same(t, "Map's answer by "+what, len(got) == 2, code == api.OK)
		got, at, errno := lanes.Gather([]int{1, 2}, workers, func(i, a int) (int, api.Errno) { return a, api.OK })
		same(t, "Gather by "+what, errno, code)
		same(t, "Gather's answer by "+what, len(got) == 2, code == api.OK)
		same(t, "Gather's place by "+what, at == -1, code == api.OK)
	}
	same(t, "the limit", api.MaxWorkers, 64)
}

// The chapter's examples.
func TestExamples(t *testing.T) {
	ten := func(a int) int { return 10 * a }
	got, code := lanes.Map([]int{3, 1, 2}, 2, ten)
	same(t, "Map", code, api.OK)
	sameList(t, "Map", got, []int{30, 10, 20})
	got, code = lanes.Map(nil, 64, ten)
	same(t, "Map of nothing", code, api.OK)
	sameList(t, "Map of nothing", got, nil)

	got, at, code := lanes.Gather([]string{"a", "bb", "ccc"}, 2, func(i int, a string) (int, api.Errno) { return 10*i + len(a), api.OK })
	same(t, "Gather of texts", code, api.OK)
	same(t, "Gather of texts: the place", at, -1)
	sameList(t, "Gather of texts", got, []int{1, 12, 23})
	for workers := 1; workers <= 64; workers++ {
		g := gaugeOf(4)
		got, at, code = lanes.Gather([]int{5, 6, 7, 8}, workers, func(i, a int) (int, api.Errno) {
			g.enter(i)
			defer g.leave()
			return a, []api.Errno{api.OK, api.ErrRange, api.OK, api.ErrFull}[i]
		})
		same(t, "Gather with errors", code, api.ErrRange)
		same(t, "Gather with errors: the place", at, 1)
		sameList(t, "Gather with errors", got, nil)
		g.onceEach(t, "Gather with errors", 0, 2)
		g.atMostOnceEach(t, "Gather with errors", 2)
	}

	list := func(a, b thing) int { return a.number - b.number }
	merged := lanes.Merge(list, []thing{{number: 1}, {number: 4}}, []thing{{number: 2, list: 1}}, nil, []thing{{number: 1, list: 3}, {number: 5, list: 3}})
	sameList(t, "Merge by numbers", merged, []thing{{number: 1}, {number: 1, list: 3}, {number: 2, list: 1}, {number: 4}, {number: 5, list: 3}})
	numbers := func(a, b int) int { return a - b }
	sameList(t, "lists that don't rise", lanes.Merge(numbers, []int{3, 1}, []int{2}), []int{2, 3, 1})
	sameList(t, "always -1", lanes.Merge(func(a, b int) int { return -1 }, []int{1, 2}, []int{3}), []int{3, 1, 2})
	sameList(t, "always 0", lanes.Merge(func(a, b int) int { return 0 }, []int{1, 2}, []int{3}), []int{1, 2, 3})
	sameList(t, "with no order", lanes.Merge(nil, []int{1, 2}, []int{3}), []int{1, 2, 3})
	sameList(t, "of no list", lanes.Merge(numbers), nil)
}
