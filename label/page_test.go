package label_test

import (
	"fmt"
	"math/rand"
	"slices"
	"testing"

	"cloister/api"
	"cloister/label"
)

// spoil overwrites a list and its spare room.
func spoil[T any](list []T, with T) {
	list = list[:cap(list)]
	for i := range list {
		list[i] = with
	}
}

// callAll makes every call of a list of labels, overwrites each answer, and tells the answers as they were.
func callAll(labels []api.Label, l api.Label) string {
	place, found := label.Place(labels, l)
	down, up := label.Down(labels, l), label.Up(labels, l)
	covers, heights := label.Covers(labels), label.Heights(labels)
	closed, err := label.Close(labels)
	told := fmt.Sprint(label.Check(labels), place, found, down, up, covers, heights, closed, err)
	spoil(down, 99)
	spoil(up, 98)
	spoil(covers, [2]int{97, 96})
	spoil(heights, 95)
	spoil(closed, 94)
	return told
}

// THE PAGE, Memory: arguments and their spare room stay as they are, and no answer shares memory with an argument or another answer.
func TestMemory(t *testing.T) {
	for _, labels := range append(lists(), cube(4), chainOf(16)) {
		room := append(slices.Clone(labels), 81, 82, 83)
		before := slices.Clone(room)
		given := room[:len(labels)]
		first := callAll(given, 3)
		same(t, fmt.Sprint("the argument ", labels), room, before)
		same(t, fmt.Sprint("again of ", labels), callAll(given, 3), first)
	}
}

// THE PAGE, Memory: lists of one moment do not share memory.
func TestAnswersStandAlone(t *testing.T) {
	labels := set(0, 1, 2, 3)
	down, up := label.Down(labels, 3), label.Up(labels, 0)
	covers, heights := label.Covers(labels), label.Heights(labels)
	closed, _ := label.Close(labels)
	callAll(labels, 3)
	spoil(down, 9)
	same(t, "Up", up, []int{0, 1, 2, 3})
	spoil(up, 9)
	same(t, "Heights", heights, []int{0, 1, 1, 2})
	spoil(heights, 9)
	same(t, "Covers", covers, [][2]int{{0, 1}, {0, 2}, {1, 3}, {2, 3}})
	same(t, "Close", closed, set(0, 1, 2, 3))
	spoil(closed, 9)
	same(t, "the argument", labels, set(0, 1, 2, 3))
}

// THE PAGE, Memory: May leaves its config as it is.
func TestMayLeavesItsConfig(t *testing.T) {
	c := api.Config{Labels: set(0, 1), Accounts: []api.Account{{Quota: 1}, {Open: 2}}, Sessions: []int{1, 0, 1}}
	before := fmt.Sprint(c)
	same(t, "May", label.May(c), true)
	same(t, "the config", fmt.Sprint(c), before)
}

// W0: every call ends at long lists too.
func TestLongLists(t *testing.T) {
	source := rand.New(rand.NewSource(3))
	long := make([]api.Label, 3000)
	for _, things := range []int{1, 4, 11, 20, 64} {
		for i := range long {
			long[i] = api.Label(source.Uint64()) >> (64 - things)
		}
		if things == 1 {
			long = long[:300:300] // each 0 stands below each 1: the answer is long
		}
		callAll(long, 5)
		label.May(api.Config{Labels: long, Accounts: make([]api.Account, len(long)), Sessions: make([]int, 3000)})
		long = make([]api.Label, 3000)
	}
}
