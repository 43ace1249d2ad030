package quota_test

import (
	"fmt"
	"math/rand"
	"testing"

	"cloister/api"
	"cloister/quota"
)

// bounded holds an account against the bounds that it keeps behind any calls.
func bounded(t *testing.T, what string, a *quota.Account, bytes, open int) {
	t.Helper()
	if a.Used() < 0 || a.Used() > bytes || a.Pending() < 0 || a.Pending() > a.Used() || a.Open() < 0 || a.Open() > open {
		t.Errorf("%.300s: %d used of %d, %d pending, %d open of %d", what, a.Used(), bytes, a.Pending(), a.Open(), open)
	}
}

// P15.8, P15.10, P15.2 to P15.6: over rows of calls by chance an account is what the chapter's words say, and never above a limit.
func TestRowsOfCalls(t *testing.T) {
	r := rand.New(rand.NewSource(158))
	for range 300 {
		p := plain{quota: quotas()[r.Intn(len(quotas()))], open: r.Intn(mostOpen + 1)}
		a := made(t, p.quota, p.open)
		for range 300 {
			c := callBy(r, p)
			p.is = follow(t, a, p, c)
			bounded(t, c.name, a, p.quota, p.open)
		}
	}
}

// P15.8: calls with numbers that nothing was asked about, most of which are refused.
func TestNeverAbove(t *testing.T) {
	r := rand.New(rand.NewSource(1508))
	for range 300 {
		bytes, open := r.Intn(20), r.Intn(4)
		all := calls(append(upTo(bytes+2), far()...))
		a := made(t, bytes, open)
		for range 1000 {
			c := all[r.Intn(len(all))]
			c.do(a)
			bounded(t, c.name, a, bytes, open)
		}
	}
}

// P15.9: each Charge that is OK may be taken back.
func TestChargeThereAndBack(t *testing.T) {
	for bytes := range 8 {
		for _, is := range states(bytes, 1, upTo(bytes)) {
			a := brought(t, bytes, 1, is)
			for old := range bytes + 2 {
				for now := range bytes + 2 {
					if a.Charge(old, now) != api.OK {
						holds(t, "a Charge that is refused", a, is)
						continue
					}
					same(t, fmt.Sprintf("at %v: back to %d from %d", is, old, now), a.Charge(now, old), api.OK)
					holds(t, "there and back", a, is)
				}
			}
		}
	}
}

// P15.9: the same at the edges of great accounts.
func TestChargeThereAndBackOfMany(t *testing.T) {
	numbers := []int{0, 1, mostBytes/2 - 1, mostBytes / 2, mostBytes/2 + 1, mostBytes - 1, mostBytes}
	for _, is := range states(mostBytes, 2, numbers) {
		a := brought(t, mostBytes, 2, is)
		for _, old := range numbers {
			for _, now := range numbers {
				if a.Charge(old, now) == api.OK {
					same(t, fmt.Sprintf("at %v: back to %d from %d", is, old, now), a.Charge(now, old), api.OK)
				}
				holds(t, "there and back", a, is)
			}
		}
	}
}

// P15.9: each Begin that is OK may be ended, and all is as it was.
func TestBeginThereAndBack(t *testing.T) {
	for open := range mostOpen + 1 {
		for _, bytes := range []int{0, 3} {
			for _, is := range states(bytes, open, upTo(bytes)) {
				a := brought(t, bytes, open, is)
				same(t, fmt.Sprint(is, ": Begin"), a.Begin() == api.OK, is.open < open)
				if is.open < open {
					same(t, fmt.Sprint(is, ": End(0)"), a.End(0), api.OK)
				}
				holds(t, "there and back", a, is)
			}
		}
	}
}

// P15.10: however much is refused, an account goes on as one that nothing was asked of.
func TestRefusedChangesNothing(t *testing.T) {
	r := rand.New(rand.NewSource(1510))
	all := calls(append(far(), 0, 3, 7, 15, mostBytes))
	for range 30 {
		p := plain{quota: 1 + r.Intn(20), open: 1 + r.Intn(3)}
		asked, left := made(t, p.quota, p.open), made(t, p.quota, p.open)
		for range 30 {
			for _, c := range all {
				if code, _ := c.want(p); code != api.OK {
					same(t, c.name, c.do(asked), code)
					holds(t, c.name, asked, p.is)
				}
			}
			c := callBy(r, p)
			same(t, c.name+" behind much that was refused", c.do(asked), c.do(left))
			_, p.is = c.want(p)
			holds(t, c.name, asked, p.is)
			holds(t, c.name, left, p.is)
		}
	}
}

// P15.6: asking changes nothing, however often.
func TestAskingChangesNothing(t *testing.T) {
	for _, is := range states(4, 2, upTo(4)) {
		a := brought(t, 4, 2, is)
		for range 100 {
			a.Used()
			a.Pending()
			a.Open()
		}
		holds(t, "an account that is asked much", a, is)
		for _, c := range calls(upTo(5)) {
			is = follow(t, a, plain{4, 2, is}, c)
		}
	}
}

// roomOf is the answers of Charge(0, n) for each n from 0 to one above a greatest one, each on an account of its own.
func roomOf(t *testing.T, bytes, live, greatest int) (codes []api.Errno) {
	t.Helper()
	for n := range greatest + 2 {
		codes = append(codes, brought(t, bytes, 0, counts{live: live}).Charge(0, n))
	}
	return codes
}

// P15.11: without pending bytes and open transactions there is room for just what the live bytes leave.
func TestRoom(t *testing.T) {
	for bytes := range 40 {
		for live := range bytes + 1 {
			for n, code := range roomOf(t, bytes, live, bytes) {
				want := api.OK
				if n > bytes-live {
					want = api.ErrQuota
				}
				same(t, fmt.Sprintf("Quota %d, %d live: Charge(0, %d)", bytes, live, n), code, want)
			}
		}
	}
}

// P15.11: the same at great Quotas: just below the room, at it, above it, and at MaxQuota and one more.
func TestRoomOfMany(t *testing.T) {
	for _, bytes := range quotas() {
		for _, live := range []int{0, 1, bytes / 2, bytes - 1, bytes} {
			if live < 0 || live > bytes {
				continue
			}
			room := bytes - live
			for _, n := range []int{0, 1, room - 1, room, room + 1, bytes, bytes + 1, mostBytes - 1, mostBytes, mostBytes + 1} {
				want := api.OK
				switch {
				case n < 0 || n > mostBytes:
					want = api.ErrArg
				case n > room:
					want = api.ErrQuota
				}
				a := brought(t, bytes, 0, counts{live: live})
				same(t, fmt.Sprintf("Quota %d, %d live: Charge(0, %d)", bytes, live, n), a.Charge(0, n), want)
			}
		}
	}
}

// P15.11: the room is the same behind transactions that came and went, and may be filled a byte at a time.
func TestRoomBehindTransactions(t *testing.T) {
	a := made(t, 30, 3)
	for _, live := range []int{0, 30, 12} {
		same(t, "Begin", a.Begin(), api.OK)
		same(t, "Begin", a.Begin(), api.OK)
		room := 30 - a.Used()
		same(t, "Charge", a.Charge(0, room), api.OK)
		same(t, "End", a.End(room/2), api.OK)
		same(t, "End", a.End(room-room/2), api.OK)
		same(t, "Settle", a.Settle(live), api.OK)
		for n := range 30 - live {
			same(t, "a byte", a.Charge(0, 1), api.OK)
			holds(t, "a byte at a time", a, counts{live: live, pending: n + 1})
		}
		same(t, "one more", a.Charge(0, 1), api.ErrQuota)
		same(t, "all of them anew", a.Charge(30-live, 0), api.OK)
		holds(t, "no pending bytes", a, counts{live: live})
	}
}
