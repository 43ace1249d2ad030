package lanes_test

import (
	"fmt"
	"math"
	"math/rand"
	"testing"

	"cloister/lanes"
)

// thing has a number, and tells whence it came.
type thing struct{ number, list, place int }

func byNumber(a, b thing) int { return a.number - b.number }

// things are lists of things with the given numbers.
func things(numbers ...[]int) (lists [][]thing) {
	for at, list := range numbers {
		var row []thing
		for place, n := range list {
			row = append(row, thing{n, at, place})
		}
		lists = append(lists, row)
	}
	return lists
}

// someLists are lists by chance, of small numbers, some of them empty.
func someLists(r *rand.Rand, count, longest int) [][]thing {
	numbers := make([][]int, count)
	for at := range numbers {
		for range r.Intn(longest + 1) {
			numbers[at] = append(numbers[at], r.Intn(9)-4)
		}
	}
	return things(numbers...)
}

// plain merges as the chapter's words say, step by step.
func plain(order func(a, b thing) int, lists [][]thing) (merged []thing) {
	taken := make([]int, len(lists))
	for {
		from := -1
		for at, list := range lists {
			if taken[at] == len(list) {
				continue
			}
			if from < 0 || order(list[taken[at]], lists[from][taken[from]]) < 0 {
				from = at
			}
		}
		if from < 0 {
			return merged
		}
		merged = append(merged, lists[from][taken[from]])
		taken[from]++
	}
}

// behind is the lists one behind the other.
func behind(lists [][]thing) (all []thing) {
	for _, list := range lists {
		all = append(all, list...)
	}
	return all
}

// always is an order that always answers the same.
func always(answer int) func(a, b thing) int {
	return func(a, b thing) int { return answer }
}

// orders are such as rank things, and such as don't; each answers the same when it is asked the same.
func orders() map[string]func(a, b thing) int {
	return map[string]func(a, b thing) int{
		"by number":        byNumber,
		"by number, down":  func(a, b thing) int { return b.number - a.number },
		"by list, down":    func(a, b thing) int { return b.list - a.list },
		"by all":           func(a, b thing) int { return 100*(a.number-b.number) + 10*(b.list-a.list) + a.place - b.place },
		"in a ring":        func(a, b thing) int { return (a.number-b.number+9)%3 - 1 },
		"by a sum":         func(a, b thing) int { return (a.number*7+b.number*3+a.list*5+b.list*11+a.place+40)%5 - 2 },
		"by the second":    func(a, b thing) int { return b.number },
		"by the first":     func(a, b thing) int { return a.number },
		"always below":     always(-1),
		"always alike":     always(0),
		"always above":     always(1),
		"always far below": always(math.MinInt),
		"always far above": always(math.MaxInt),
		"far apart": func(a, b thing) int {
			if a.number < b.number {
				return math.MinInt
			}
			return math.MaxInt
		},
	}
}

// P6.3: whatever order answers, Merge goes as the words say.
func TestMergeByWords(t *testing.T) {
	r := rand.New(rand.NewSource(63))
	for name, order := range orders() {
		for count := range 9 {
			for range 60 {
				lists := someLists(r, count, 6)
				what := fmt.Sprint("Merge ", name, " of ", lists)
				sameList(t, what, lanes.Merge(order, lists...), plain(order, lists))
			}
		}
	}
}

// P6.3: an order by chance, which ranks nothing: what it answers of any two numbers stands in a table.
func TestMergeByChance(t *testing.T) {
	r := rand.New(rand.NewSource(633))
	for range 500 {
		var table [9][9]int
		for a := range table {
			for b := range table[a] {
				table[a][b] = r.Intn(3) - 1
			}
		}
		order := func(a, b thing) int { return table[a.number+4][b.number+4] }
		lists := someLists(r, 1+r.Intn(8), 8)
		sameList(t, fmt.Sprint("Merge by chance of ", lists), lanes.Merge(order, lists...), plain(order, lists))
	}
}

// P6.3: of no list, of one, of empty ones.
func TestMergeOfFewLists(t *testing.T) {
	for name, order := range orders() {
		sameList(t, name+": of no list", lanes.Merge(order), nil)
		sameList(t, name+": of an empty list of lists", lanes.Merge(order, [][]thing{}...), nil)
		sameList(t, name+": of nothing", lanes.Merge(order, nil), nil)
		sameList(t, name+": of empty lists", lanes.Merge(order, nil, []thing{}, nil), nil)
		for _, one := range things(nil, []int{1}, []int{3, 1, 2}, []int{1, 1, 1, 1}) {
			sameList(t, name+": of one list", lanes.Merge(order, one), one)
			sameList(t, name+": of one list among empty ones", lanes.Merge(order, nil, one, []thing{}, nil), one)
			sameList(t, name+": of one list, the last one", lanes.Merge(order, []thing{}, nil, one), one)
		}
	}
}

// P6.3: the same order, told by hand.
func TestMergeByHand(t *testing.T) {
	numbers := func(a, b int) int { return a - b }
	sameList(t, "lists that rise", lanes.Merge(numbers, []int{1, 4, 9}, []int{2, 3}, []int{0, 10}), []int{0, 1, 2, 3, 4, 9, 10})
	sameList(t, "lists that fall", lanes.Merge(numbers, []int{9, 4, 1}, []int{3, 2}, []int{10, 0}), []int{3, 2, 9, 4, 1, 10, 0})
	sameList(t, "a list that falls at its end", lanes.Merge(numbers, []int{5, 1}, []int{4, 6}), []int{4, 5, 1, 6})
	below := func(a, b int) int { return -1 }
	sameList(t, "always below, of three", lanes.Merge(below, []int{1, 2}, []int{3}, []int{4, 5}), []int{4, 5, 3, 1, 2})
	above := func(a, b int) int { return 1 }
	sameList(t, "always above, of three", lanes.Merge(above, []int{1, 2}, []int{3}, []int{4, 5}), []int{1, 2, 3, 4, 5})
	ring := func(a, b int) int { return []int{0, -1, 1}[(b-a+3)%3] } // 0 is ahead of 1, 1 of 2, 2 of 0
	sameList(t, "in a ring", lanes.Merge(ring, []int{0}, []int{1}, []int{2}), []int{2, 0, 1})
	sameList(t, "in a ring, turned", lanes.Merge(ring, []int{1}, []int{0}, []int{2}), []int{2, 0, 1})
	sameList(t, "in a ring, down", lanes.Merge(ring, []int{2}, []int{1}, []int{0}), []int{0, 1, 2})
}

// P6.3: with no order the lists stand one behind the other.
func TestMergeWithoutOrder(t *testing.T) {
	r := rand.New(rand.NewSource(6333))
	sameList(t, "no list", lanes.Merge[int](nil), nil)
	sameList(t, "an empty one", lanes.Merge(nil, []int{}), nil)
	for count := range 9 {
		for range 30 {
			lists := someLists(r, count, 6)
			sameList(t, fmt.Sprint("without an order of ", lists), lanes.Merge(nil, lists...), behind(lists))
		}
	}
}

// Things of other types: texts, functions, nothing at all.
func TestMergeOfOtherKinds(t *testing.T) {
	texts := func(a, b string) int { return len(a) - len(b) }
	sameList(t, "texts", lanes.Merge(texts, []string{"", "bbb"}, []string{"a", "cc"}), []string{"", "a", "cc", "bbb"})
	calls := lanes.Merge(func(a, b func() int) int { return a() - b() },
		[]func() int{func() int { return 2 }}, []func() int{func() int { return 1 }, func() int { return 3 }})
	same(t, "functions", fmt.Sprint(calls[0](), calls[1](), calls[2]()), "1 2 3")
	none := lanes.Merge(func(a, b struct{}) int { return 0 }, make([]struct{}, 3), make([]struct{}, 4))
	same(t, "nothing at all", len(none), 7)
	things := lanes.Merge(func(a, b any) int { return 0 }, []any{nil, 1}, []any{"a", nil})
	sameList(t, "anything", things, []any{nil, 1, "a", nil})
	floats := lanes.Merge(func(a, b float64) int { return int(a - b) }, []float64{math.NaN(), 1}, []float64{2})
	same(t, "numbers that are none", len(floats), 3)
}

// Long lists, and many.
func TestMergeOfMany(t *testing.T) {
	one, other := make([]int, 0, 100000), make([]int, 0, 100000)
	for i := range 100000 {
		one, other = append(one, 2*i), append(other, 2*i+1)
	}
	numbers := func(a, b int) int { return a - b }
	sameList(t, "long lists", lanes.Merge(numbers, one, other), upTo(200000))
	many := make([][]int, 3000)
	for i := range 1000 {
		many[3*i+1] = []int{999 - i}
	}
	sameList(t, "many lists", lanes.Merge(numbers, many...), upTo(1000))
}
