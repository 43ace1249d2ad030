package order_test

import (
	"fmt"
	"math"
	"slices"
	"strings"
	"sync"
	"testing"

	"cloister/api"
	"cloister/order"
)

// THE PAGE: lists that are handed in stay as they are, spare room too.
func TestNothingChanged(t *testing.T) {
	room := slices.Concat(goodItems(), badItems()[:30], goodItems())
	other := slices.Clone(room)
	before := toldAll(room)
	for from := 0; from < len(room); from += 7 {
		for _, n := range []int{0, 1, 5, 64, 65} {
			if from+n > len(room) {
				continue
			}
			given := room[from : from+n]
			order.Encode(given)
			order.CompareAll(given, other[from:from+n])
			order.CompareAll(other[:n], given)
			order.CompareAll(given, room[:n])
		}
	}
	same(t, "the list handed in", toldAll(room) == before, true)
	same(t, "the other list handed in", toldAll(other) == before, true)
}

// THE PAGE: what Encode answered stays as it is, whatever becomes of the list.
func TestNothingKept(t *testing.T) {
	items := list(text("ab\x00"), whole(-3), pair(1, minus))
	s := encoded(t, items)
	was := strings.Clone(s)
	clear(items)
	encoded(t, list(text("zzzz"), whole(9)))
	sameText(t, "an earlier answer", s, was)
}

// THE PAGE: what Decode answers is new memory: writing over it, its spare room included, changes no other answer.
func TestDecodeNewMemory(t *testing.T) {
	for n := range 65 {
		s := encoded(t, times(n, text("a\x00b")))
		first, _ := order.Decode(s)
		second, _ := order.Decode(s)
		was := toldAll(second)
		room := first[:cap(first)]
		for i := range room {
			room[i] = whole(77)
		}
		same(t, "an earlier answer", toldAll(second), was)
		third, code := order.Decode(s)
		same(t, "a later answer", code, api.OK)
		same(t, "a later answer", toldAll(third), was)
	}
}

// W0: every call ends, and none panics, at all arguments: such as are long, such as are strange.
func TestWild(t *testing.T) {
	big := strings.Repeat("\x00a\xff", 200000)
	s := encoded(t, times(10, text(big)))
	got, code := order.Decode(s)
	same(t, "long texts", code, api.OK)
	same(t, "long texts", len(got), 10)
	_, code = order.Decode(s[:len(s)-1])
	same(t, "long texts without their end", code, api.ErrItems)
	order.Next(big)
	for _, it := range append(badItems(), api.Item{Kind: math.MinInt, Text: big}) {
		order.Check(it)
		order.Clean(it)
		order.Encode(list(it))
		order.Compare(it, none())
	}
	same(t, "long lists", order.CompareAll(times(100000, none()), times(100001, none())), -1)
	for b := range 256 {
		order.Decode(strings.Repeat(string([]byte{byte(b)}), 100000))
		order.Decode("\x06" + strings.Repeat(string([]byte{byte(b)}), 1000))
	}
}

// Calls at the same time do not meet.
func TestAtOnce(t *testing.T) {
	items := slices.Concat(goodItems()[:40], list(text("a\x00"), pair(1, minus)))
	want := paperEncode(items)
	got := make([]string, 8)
	var all sync.WaitGroup
	for i := range got {
		all.Go(func() {
			for range 50 {
				got[i], _ = order.Encode(items)
				back, _ := order.Decode(got[i])
				got[i], _ = order.Encode(back)
			}
		})
	}
	all.Wait()
	for _, one := range got {
		sameText(t, "at once", one, want)
	}
}

// The chapter's examples of Encode.
func TestExamplesEncode(t *testing.T) {
	for _, row := range []struct {
		items []api.Item
		want  string
	}{
		{list(none()), "01"},
		{list(truth(true), truth(false)), "02 01 02 00"},
		{nil, ""},
		{list(whole(0)), "03 80 00 00 00 00 00 00 00"},
		{list(whole(-1)), "03 7f ff ff ff ff ff ff ff"},
		{list(whole(258)), "03 80 00 00 00 00 00 01 02"},
		{list(float(1)), "04 bf f0 00 00 00 00 00 00"},
		{list(float(-1)), "04 40 0f ff ff ff ff ff ff"},
		{list(float(0)), "04 80 00 00 00 00 00 00 00"},
		{list(float(minus)), "04 80 00 00 00 00 00 00 00"},
		{list(float(math.NaN())), "04 ff f8 00 00 00 00 00 01"},
		{list(float(ofBits(0xFFFFFFFFFFFFFFFF))), "04 ff f8 00 00 00 00 00 01"},
		{list(pair(1, -1)), "05 bf f0 00 00 00 00 00 00 40 0f ff ff ff ff ff ff"},
		{list(text("a")), "06 61 00 01"},
		{list(text("")), "06 00 01"},
		{list(text("\x00")), "06 00 ff 00 01"},
	} {
		same(t, "Encode of "+toldAll(row.items), fmt.Sprintf("% x", encoded(t, row.items)), row.want)
	}
	refused(t, "65 times none", times(65, none()), api.ErrLarge)
	for _, it := range list(api.Item{Kind: 0}, api.Item{Kind: 7}, api.Item{Kind: 3, Text: "a"}, api.Item{Kind: 1, Float: math.NaN()}) {
		refused(t, told(it), list(it), api.ErrItem)
	}
}

// The chapter's other examples.
func TestExamples(t *testing.T) {
	for _, s := range []string{"\x02\x02", "\x06\x61", "\x06\x00\x02", "\x00", "\x04\xff\xf8\x00\x00\x00\x00\x00\x02", "\x04\x7f\xff\xff\xff\xff\xff\xff\xff"} {
		notItems(t, s)
	}
	same(t, "int 5, text", order.Compare(whole(5), text("")), -1)
	same(t, "NaN, Inf", order.Compare(float(math.NaN()), float(math.Inf(1))), 1)
	same(t, "noughts", order.Compare(float(minus), float(0)), 0)
	same(t, "complex", order.Compare(pair(1, 2), pair(1, 1)), 1)
	same(t, "a longer list", order.CompareAll(list(whole(1)), list(whole(1), none())), -1)
	same(t, "a greater item", order.CompareAll(list(whole(2)), list(whole(1), none())), 1)
	sameNext(t, "a", "b")
	sameNext(t, "a\xff\xff", "b")
	sameNext(t, "", "")
	sameNext(t, "\xff", "")
}
