package order_test

import (
	"fmt"
	"strings"
	"testing"

	"cloister/api"
	"cloister/order"
)

// sameNext holds Next of a text against what is wanted; an empty text stands for none.
func sameNext(t *testing.T, s, want string) {
	t.Helper()
	got, is := order.Next(s)
	what := fmt.Sprintf("Next of %.100X", s)
	sameText(t, what, got, want)
	same(t, what, is, want != "")
}

// P4.7: texts with each last byte, with and without bytes 255 behind it.
func TestNext(t *testing.T) {
	for _, ahead := range []string{"", "a", "\x00", "\xff", "\xff\xff", "ab\xffc", "\xc3"} {
		for b := range 255 {
			for n := range 4 {
				s := ahead + string([]byte{byte(b)}) + strings.Repeat("\xff", n)
				sameNext(t, s, ahead+string([]byte{byte(b + 1)}))
			}
		}
	}
}

// P4.7: there is none.
func TestNextNone(t *testing.T) {
	for n := range 300 {
		sameNext(t, strings.Repeat("\xff", n), "")
	}
	sameNext(t, strings.Repeat("\xff", 1<<20), "")
	sameNext(t, "\x00"+strings.Repeat("\xff", 1<<20), "\x01")
}

// P4.7: bytes that are no runes are bytes like others: only 255 falls away.
func TestNextNoRunes(t *testing.T) {
	sameNext(t, "a\xfe", "a\xff")
	sameNext(t, "a\xfe\xff", "a\xff")
	sameNext(t, "a\x80\xff", "a\x81")
	sameNext(t, "\u00ff", "\xc3\xc0")
	sameNext(t, "\ufffd", "\xef\xbf\xbe")
	sameNext(t, "\ufffd\xff", "\xef\xbf\xbe")
}

// shortTexts is all texts of some bytes, of up to so many.
func shortTexts(most int) []string {
	all, last := []string{""}, []string{""}
	for range most {
		var longer []string
		for _, s := range last {
			for _, b := range "\x00\x01ab" {
				longer = append(longer, s+string(b))
			}
			longer = append(longer, s+"\xfe", s+"\xff")
		}
		all, last = append(all, longer...), longer
	}
	return all
}

// P4.11: a text begins with s just if it is not below s, and below Next of s, if that tells one.
func TestBeginsJustIf(t *testing.T) {
	all := shortTexts(4)
	for _, s := range shortTexts(3) {
		next, is := order.Next(s)
		for _, other := range all {
			within := paperTextOrder(other, s) >= 0 && (!is || paperTextOrder(other, next) < 0)
			if strings.HasPrefix(other, s) != within {
				t.Fatalf("%X begins with %X: not as Next tells, %X %v", other, s, next, is)
			}
		}
	}
}

// P4.10, P4.11: all lists that begin with some items lie between their Encode and Next of it.
func TestNextOfItems(t *testing.T) {
	for _, it := range goodItems() {
		s := encoded(t, list(it))
		next, is := order.Next(s)
		same(t, "Next of an item", is, true)
		for _, other := range goodItems() {
			longer := encoded(t, list(it, other))
			if longer < s || longer >= next {
				t.Fatalf("%X is not from %X to %X", longer, s, next)
			}
			if single := encoded(t, list(other)); (single >= s && single < next) != (order.Compare(it, other) == 0) {
				t.Fatalf("%X is from %X to %X", single, s, next)
			}
		}
	}
	sameNext(t, encoded(t, list(api.Item{Kind: api.ItemText, Text: "a"})), "\x06a\x00\x02")
}
