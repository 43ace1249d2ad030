package order_test

import (
	"math/rand"
	"strings"
	"testing"

	"cloister/api"
	"cloister/order"
)

// lists is lists of items that Encode takes, so made that many share their first items or have such as are alike and not the same.
func lists(source *rand.Rand, n int) [][]api.Item {
	all := [][]api.Item{nil, list(none()), list(none(), none())}
	for _, it := range goodItems() {
		all = append(all, list(it), list(it, none()), list(none(), it))
	}
	for len(all) < n {
		base := all[source.Intn(len(all))]
		cut := base[:source.Intn(len(base)+1)]
		all = append(all, append(append([]api.Item{}, cut...), randomItems(source, 3)...))
	}
	return all
}

// P4.8, P4.10: the order of texts is that of the lists, and a text begins with another one just if the first items are alike.
func TestOrderAndBeginnings(t *testing.T) {
	source := rand.New(rand.NewSource(48))
	all := lists(source, 1200)
	texts := make([]string, len(all))
	for i, items := range all {
		texts[i] = encoded(t, items)
	}
	for i, a := range all {
		for j, b := range all {
			if got, want := order.CompareAll(a, b), paperTextOrder(texts[i], texts[j]); got != want {
				t.Fatalf("CompareAll(%.300s, %.300s): %d, but the texts %d", toldAll(a), toldAll(b), got, want)
			}
			alike := len(b) <= len(a) && order.CompareAll(a[:len(b)], b) == 0
			if strings.HasPrefix(texts[i], texts[j]) != alike {
				t.Fatalf("Encode of %.300s begins with that of %.300s: %v", toldAll(a), toldAll(b), !alike)
			}
		}
	}
}

// P4.10: Encode of a list's first items is a beginning of its Encode.
func TestFirstItems(t *testing.T) {
	source := rand.New(rand.NewSource(49))
	for range 300 {
		items := randomItems(source, 10)
		whole := encoded(t, items)
		for n := range items {
			first := encoded(t, items[:n])
			if !strings.HasPrefix(whole, first) || len(first) >= len(whole) {
				t.Errorf("%.200X does not begin with %.200X", whole, first)
			}
		}
	}
}

// P4.9: there and back, both ways.
func TestThereAndBack(t *testing.T) {
	source := rand.New(rand.NewSource(50))
	for range 2000 {
		items := randomItems(source, 6)
		got, code := order.Decode(encoded(t, items))
		same(t, "Decode of Encode", code, api.OK)
		var want strings.Builder
		for _, it := range items {
			want.WriteString(told(order.Clean(it)))
		}
		same(t, "the items, each cleaned", toldAll(got), want.String())
	}
}

// P4.9: Encode of what Decode answers is what was decoded, and unlike texts have unlike items.
func TestBackAndThere(t *testing.T) {
	source := rand.New(rand.NewSource(51))
	seen := make(map[string]string)
	for range 60000 {
		s := randomText(source, 10)
		items, code := order.Decode(s)
		if code != api.OK {
			continue
		}
		sameText(t, "Encode of Decode", encoded(t, items), s)
		was, is := seen[toldAll(items)]
		if is && was != s {
			t.Fatalf("%X and %X have the same items", was, s)
		}
		seen[toldAll(items)] = s
	}
	if len(seen) < 500 {
		t.Error("too few texts were decoded:", len(seen))
	}
}
