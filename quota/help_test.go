package quota_test

import (
	"fmt"
	"math"
	"math/big"
	"math/rand"
	"testing"

	"cloister/api"
	"cloister/quota"
)

// The limits as the chapter writes them.
const (
	mostBytes = 1 << 20 // MaxQuota
	mostOpen  = 32      // MaxOpen
)

// same holds an answer against what is wanted.
func same[A comparable](t *testing.T, what string, got, want A) {
	t.Helper()
	if got != want {
		t.Errorf("%.300s: got %.300s, want %.300s", what, fmt.Sprint(got), fmt.Sprint(want))
	}
}

// counts is what an account has counted.
type counts struct{ live, pending, open int }

// made is an account that New must make.
func made(t *testing.T, bytes, open int) *quota.Account {
	t.Helper()
	a, code := quota.New(api.Account{Quota: bytes, Open: open})
	if a == nil || code != api.OK {
		t.Fatalf("New of Quota %d, Open %d: got %v, %v", bytes, open, a, code)
	}
	return a
}

// brought is an account that is brought to some counts, all of which it must take.
func brought(t *testing.T, bytes, open int, c counts) *quota.Account {
	t.Helper()
	a := made(t, bytes, open)
	codes := []api.Errno{a.Settle(c.live), a.Charge(0, c.pending)}
	for range c.open {
		codes = append(codes, a.Begin())
	}
	for _, code := range codes {
		if code != api.OK {
			t.Fatalf("an account of Quota %d, Open %d brought to %v: %v", bytes, open, c, codes)
		}
	}
	return a
}

// holds holds all that an account tells against what it has counted; it asks twice, since asking must change nothing.
func holds(t *testing.T, what string, a *quota.Account, c counts) {
	t.Helper()
	for range 2 {
		if a.Used() != c.live+c.pending || a.Pending() != c.pending || a.Open() != c.open {
			t.Errorf("%.300s: got %d used, %d pending, %d open, want %d, %d, %d", what, a.Used(), a.Pending(), a.Open(), c.live+c.pending, c.pending, c.open)
		}
	}
}

// call is a call that may change an account.
type call struct {
	name string
	do   func(a *quota.Account) api.Errno
	want func(p plain) (api.Errno, counts)
}

func begin() call {
	return call{"Begin()", (*quota.Account).Begin, plain.begin}
}

func charge(old, now int) call {
	return call{
		fmt.Sprintf("Charge(%d, %d)", old, now),
		func(a *quota.Account) api.Errno { return a.Charge(old, now) },
		func(p plain) (api.Errno, counts) { return p.charge(old, now) },
	}
}

func end(pending int) call {
	return call{
		fmt.Sprintf("End(%d)", pending),
		func(a *quota.Account) api.Errno { return a.End(pending) },
		func(p plain) (api.Errno, counts) { return p.end(pending) },
	}
}

func settle(live int) call {
	return call{
		fmt.Sprintf("Settle(%d)", live),
		func(a *quota.Account) api.Errno { return a.Settle(live) },
		func(p plain) (api.Errno, counts) { return p.settle(live) },
	}
}

// calls is all calls with these numbers.
func calls(numbers []int) []call {
	all := []call{begin()}
	for _, n := range numbers {
		all = append(all, end(n), settle(n))
		for _, m := range numbers {
			all = append(all, charge(n, m))
		}
	}
	return all
}

// plain is the chapter's words: an account's limits and what it has counted, and of each call what it must answer and what must be counted behind it.
type plain struct {
	quota, open int
	is          counts
}

// above tells whether the sum of some numbers, however great, is above another one.
func above(than int, numbers ...int) bool {
	sum := new(big.Int)
	for _, n := range numbers {
		sum.Add(sum, big.NewInt(int64(n)))
	}
	return sum.Cmp(big.NewInt(int64(than))) > 0
}

func (p plain) begin() (api.Errno, counts) {
	if p.is.open == p.open {
		return api.ErrMany, p.is
	}
	return api.OK, counts{p.is.live, p.is.pending, p.is.open + 1}
}

func (p plain) charge(old, now int) (api.Errno, counts) {
	if old < 0 || now < 0 || above(mostBytes, now) || above(p.is.pending, old) {
		return api.ErrArg, p.is
	}
	if above(p.quota, p.is.live, p.is.pending, -old, now) {
		return api.ErrQuota, p.is
	}
	return api.OK, counts{p.is.live, p.is.pending - old + now, p.is.open}
}

func (p plain) end(pending int) (api.Errno, counts) {
	if p.is.open == 0 || pending < 0 || above(p.is.pending, pending) {
		return api.ErrArg, p.is
	}
	return api.OK, counts{p.is.live, p.is.pending - pending, p.is.open - 1}
}

func (p plain) settle(live int) (api.Errno, counts) {
	if live < 0 || above(mostBytes, live) {
		return api.ErrArg, p.is
	}
	if above(p.quota, live, p.is.pending) {
		return api.ErrQuota, p.is
	}
	return api.OK, counts{live, p.is.pending, p.is.open}
}

// follow does a call on an account and holds it against the chapter's words; it answers what is counted behind it.
func follow(t *testing.T, a *quota.Account, p plain, c call) counts {
	t.Helper()
	code, is := c.want(p)
	what := fmt.Sprintf("Quota %d, Open %d, at %v: %s", p.quota, p.open, p.is, c.name)
	same(t, what, c.do(a), code)
	holds(t, what, a, is)
	return is
}

// states is all counts that an account may have: of its bytes only those that are a number of the list.
func states(bytes, open int, numbers []int) (all []counts) {
	for _, live := range numbers {
		for _, pending := range numbers {
			for n := range open + 1 {
				if live >= 0 && pending >= 0 && !above(bytes, live, pending) {
					all = append(all, counts{live, pending, n})
				}
			}
		}
	}
	return all
}

// upTo is the numbers from 0 to n.
func upTo(n int) (all []int) {
	for i := range n + 1 {
		all = append(all, i)
	}
	return all
}

// far is numbers beyond all bounds, the least and the greatest ones among them.
func far() []int {
	return []int{-1, -2, -mostBytes, -mostBytes - 1, -1 << 32, -1 << 62, math.MinInt + 1, math.MinInt, mostBytes + 1, mostBytes + 2, 2 * mostBytes, 1<<31 - 1, 1 << 31, 1 << 32, 1<<32 + 1, 1 << 62, math.MaxInt - mostBytes, math.MaxInt - 1, math.MaxInt}
}

// quotas is quotas small and great.
func quotas() []int { return []int{0, 1, 2, 100, 255, 256, 4096, 65536, mostBytes - 1, mostBytes} }

// callBy is a call by chance, most often one with numbers that an account may take as it is.
func callBy(r *rand.Rand, p plain) call {
	number := func(greatest int) int {
		switch r.Intn(16) {
		case 0:
			return far()[r.Intn(len(far()))]
		case 1, 2:
			return greatest + r.Intn(3) - 1
		}
		return r.Intn(greatest + 1)
	}
	switch r.Intn(6) {
	case 0:
		return begin()
	case 1:
		return end(number(p.is.pending))
	case 2:
		return settle(number(p.quota - p.is.pending))
	}
	old := number(p.is.pending)
	return charge(old, number(p.quota-p.is.live-p.is.pending+max(0, min(old, p.is.pending))))
}
