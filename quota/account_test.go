package quota_test

import (
	"fmt"
	"math"
	"testing"

	"cloister/api"
	"cloister/quota"
)

// P15.1, Limits: every Quota and every Open within the bounds is taken, and nothing is used.
func TestNew(t *testing.T) {
	for _, bytes := range quotas() {
		for open := range mostOpen + 1 {
			holds(t, fmt.Sprint("a new account of Quota ", bytes, ", Open ", open), made(t, bytes, open), counts{})
		}
	}
}

// P15.1, Limits: a Quota or an Open out of the bounds, the other one within them or not.
func TestNewRefused(t *testing.T) {
	refused := func(bytes, open int) {
		t.Helper()
		a, code := quota.New(api.Account{Quota: bytes, Open: open, Queue: 1, Window: 1, Start: 1})
		if a != nil || code != api.ErrArg {
			t.Errorf("New of Quota %d, Open %d: got %v, %v", bytes, open, a, code)
		}
	}
	opens := append(far(), mostOpen+1, mostOpen+2, mostBytes)
	for _, bytes := range far() {
		for _, open := range append(opens, 0, 1, mostOpen) {
			refused(bytes, open)
		}
	}
	for _, open := range opens {
		for _, bytes := range quotas() {
			refused(bytes, open)
		}
	}
}

// P15.1: the other fields of an account are not looked at, neither of one that is taken nor of one that is refused.
func TestNewLooksAtNoOtherField(t *testing.T) {
	for _, n := range append(far(), 0, 1, 64, mostBytes) {
		for _, of := range []api.Account{{Queue: n}, {Window: n}, {Start: n}, {Queue: n, Window: n, Start: n}} {
			of.Quota, of.Open = 3, 1
			a, code := quota.New(of)
			if a == nil || code != api.OK {
				t.Fatalf("New of %v: got %v", of, code)
			}
			holds(t, "a new account", a, counts{})
			same(t, "Begin", a.Begin(), api.OK)
			same(t, "one more", a.Begin(), api.ErrMany)
			same(t, "Charge", a.Charge(0, 3), api.OK)
			same(t, "one more", a.Charge(3, 4), api.ErrQuota)
			of.Quota = mostBytes + 1
			a, code = quota.New(of)
			same(t, "no account", a == nil, true)
			same(t, "a Quota that is too great", code, api.ErrArg)
		}
	}
}

// P15.1, P15.2, P15.3: which limit is which.
func TestEachLimitIsItsOwn(t *testing.T) {
	a := made(t, 2, 5)
	for range 5 {
		same(t, "Begin", a.Begin(), api.OK)
	}
	same(t, "one more", a.Begin(), api.ErrMany)
	same(t, "three bytes", a.Charge(0, 3), api.ErrQuota)
	same(t, "two bytes", a.Charge(0, 2), api.OK)
	holds(t, "at both limits", a, counts{0, 2, 5})
}

// P15.2, Limits: Begin up to Open and one more, however often, whatever bytes are used.
func TestBegin(t *testing.T) {
	for open := range mostOpen + 1 {
		for _, c := range []counts{{}, {live: 7}, {pending: 7}, {live: 3, pending: 4}} {
			a := brought(t, 7, open, c)
			for n := range open {
				same(t, "Begin", a.Begin(), api.OK)
				holds(t, "behind a Begin", a, counts{c.live, c.pending, n + 1})
			}
			for range 3 {
				same(t, "one more", a.Begin(), api.ErrMany)
				holds(t, "behind a Begin that is refused", a, counts{c.live, c.pending, open})
			}
		}
	}
}

// P15.2, P15.4: behind an End there is room for another Begin, and for no second one.
func TestBeginBehindEnd(t *testing.T) {
	for open := 1; open <= mostOpen; open++ {
		a := brought(t, 0, open, counts{open: open})
		for range 3 {
			same(t, "Begin at Open", a.Begin(), api.ErrMany)
			same(t, "End", a.End(0), api.OK)
			holds(t, "behind an End", a, counts{open: open - 1})
			same(t, "Begin behind an End", a.Begin(), api.OK)
			holds(t, "behind a Begin", a, counts{open: open})
		}
	}
}

// chargeRow is a Charge at a Quota of 10, with 3 live bytes and 5 pending ones, and what it answers.
type chargeRow struct {
	old, now int
	code     api.Errno
}

func chargeRows() []chargeRow {
	return []chargeRow{
		{0, 0, api.OK}, {0, 1, api.OK}, {0, 2, api.OK}, {0, 3, api.ErrQuota},
		{1, 3, api.OK}, {1, 4, api.ErrQuota},
		{5, 0, api.OK}, {5, 7, api.OK}, {5, 8, api.ErrQuota}, {5, 5, api.OK},
		{6, 0, api.ErrArg}, {6, 6, api.ErrArg}, {6, 8, api.ErrArg}, {6, mostBytes + 1, api.ErrArg}, {8, 0, api.ErrArg}, {10, 10, api.ErrArg},
		{0, mostBytes, api.ErrQuota}, {5, mostBytes, api.ErrQuota}, {6, mostBytes, api.ErrArg},
		{0, mostBytes + 1, api.ErrArg}, {5, mostBytes + 1, api.ErrArg},
		{-1, 0, api.ErrArg}, {-1, 2, api.ErrArg}, {-1, 8, api.ErrArg}, {-1, mostBytes + 1, api.ErrArg}, {-1, -1, api.ErrArg},
		{0, -1, api.ErrArg}, {5, -1, api.ErrArg}, {6, -1, api.ErrArg}, {0, -5, api.ErrArg}, {5, -3, api.ErrArg},
		{math.MinInt, 0, api.ErrArg}, {math.MinInt, math.MinInt, api.ErrArg}, {math.MinInt, math.MaxInt, api.ErrArg},
		{0, math.MinInt, api.ErrArg}, {5, math.MinInt, api.ErrArg}, {math.MaxInt, 0, api.ErrArg},
		{0, math.MaxInt, api.ErrArg}, {5, math.MaxInt, api.ErrArg}, {math.MaxInt, math.MaxInt, api.ErrArg}, {math.MaxInt, math.MinInt, api.ErrArg},
	}
}

// P15.3: each error and their order, with and without an open transaction; Open counts for nothing, even if it is 0.
func TestCharge(t *testing.T) {
	for open := range 3 {
		for n := range open + 1 {
			for _, row := range chargeRows() {
				is := counts{3, 5, n}
				a := brought(t, 10, open, is)
				what := fmt.Sprintf("%d open: Charge(%d, %d)", n, row.old, row.now)
				same(t, what, a.Charge(row.old, row.now), row.code)
				if row.code == api.OK {
					is.pending += row.now - row.old
				}
				holds(t, what, a, is)
			}
		}
	}
}

// P15.3, Limits: at each Quota just so many bytes are taken, and at MaxQuota one more is no number of bytes.
func TestChargeUpToQuota(t *testing.T) {
	for _, bytes := range quotas() {
		one := api.ErrQuota
		if bytes == mostBytes {
			one = api.ErrArg
		}
		a := made(t, bytes, 0)
		same(t, "one above Quota", a.Charge(0, bytes+1), one)
		holds(t, "behind that", a, counts{})
		same(t, "Quota", a.Charge(0, bytes), api.OK)
		holds(t, "at Quota", a, counts{pending: bytes})
		same(t, "a byte", a.Charge(0, 1), api.ErrQuota)
		same(t, "all anew, and one above Quota", a.Charge(bytes, bytes+1), one)
		same(t, "no byte", a.Charge(0, 0), api.OK)
		same(t, "all anew", a.Charge(bytes, bytes), api.OK)
		same(t, "one above the pending bytes", a.Charge(bytes+1, 0), api.ErrArg)
		holds(t, "still at Quota", a, counts{pending: bytes})
		same(t, "all away", a.Charge(bytes, 0), api.OK)
		holds(t, "empty again", a, counts{})
	}
}

// P15.3: live bytes are none that a Charge may count as old.
func TestChargeOfLiveBytes(t *testing.T) {
	a := brought(t, 10, 1, counts{live: 10})
	same(t, "a live byte as old", a.Charge(1, 0), api.ErrArg)
	same(t, "a live byte as old and as new", a.Charge(1, 1), api.ErrArg)
	same(t, "a byte more", a.Charge(0, 1), api.ErrQuota)
	same(t, "nothing", a.Charge(0, 0), api.OK)
	holds(t, "live bytes alone", a, counts{live: 10})
}

// P15.4: End without an open transaction, whatever it says is pending.
func TestEndOfNone(t *testing.T) {
	for _, c := range []counts{{}, {live: 4}, {pending: 4}, {live: 3, pending: 7}} {
		for _, open := range []int{0, 1, mostOpen} {
			a := brought(t, 10, open, c)
			for _, n := range append(far(), 0, 1, 3, 4, 7, 8, 10, mostBytes) {
				same(t, fmt.Sprint("none open: End of ", n), a.End(n), api.ErrArg)
				holds(t, "behind that", a, c)
			}
		}
	}
}

// P15.4: pending below 0, at and above the pending bytes, which the live ones are not.
func TestEnd(t *testing.T) {
	for open := 1; open <= 3; open++ {
		for _, live := range []int{0, 1, 4} {
			for pending := range 6 {
				is := counts{live, pending, open}
				for n := range 12 {
					a := brought(t, 10, open, is)
					if n > pending {
						same(t, fmt.Sprint(is, ": End of ", n), a.End(n), api.ErrArg)
						holds(t, "behind an End that is refused", a, is)
					} else {
						same(t, fmt.Sprint(is, ": End of ", n), a.End(n), api.OK)
						holds(t, "behind an End", a, counts{live, pending - n, open - 1})
					}
				}
				a := brought(t, 10, open, is)
				for _, n := range append(far(), mostBytes) {
					same(t, fmt.Sprint(is, ": End of ", n), a.End(n), api.ErrArg)
					holds(t, "behind an End that is refused", a, is)
				}
			}
		}
	}
}

// P15.4: one End a Begin, and none more.
func TestAsManyEndsAsBegins(t *testing.T) {
	a := brought(t, 100, mostOpen, counts{pending: 100, open: mostOpen})
	for n := range mostOpen {
		same(t, "End", a.End(3), api.OK)
		holds(t, "behind an End", a, counts{pending: 100 - 3*(n+1), open: mostOpen - n - 1})
	}
	same(t, "one End more", a.End(3), api.ErrArg)
	holds(t, "behind it", a, counts{pending: 4})
}

// P15.5: below 0, at and above what the pending bytes leave; live bytes are said anew, not added, and may fall.
func TestSettle(t *testing.T) {
	for before := range 7 {
		for _, open := range []int{0, 2} {
			a := brought(t, 10, 2, counts{before, 4, open})
			is := counts{before, 4, open}
			for _, live := range []int{6, 7, 0, 5, 6, 3, 10, 1, -1, 2, 11, 2, mostBytes, mostBytes + 1, 6, 6, 0} {
				what := fmt.Sprint(is, ": Settle of ", live)
				switch {
				case live < 0 || live > mostBytes:
					same(t, what, a.Settle(live), api.ErrArg)
				case live > 6:
					same(t, what, a.Settle(live), api.ErrQuota)
				default:
					same(t, what, a.Settle(live), api.OK)
					is.live = live
				}
				holds(t, what, a, is)
			}
		}
	}
}

// P15.5, Limits: numbers that are none of bytes are ErrArg, however full the account is; MaxQuota is one of bytes.
func TestSettleOutOfTheBounds(t *testing.T) {
	for _, bytes := range quotas() {
		for _, is := range []counts{{}, {live: bytes}, {pending: bytes}, {live: bytes / 2, pending: bytes - bytes/2}} {
			a := brought(t, bytes, 0, is)
			for _, n := range far() {
				same(t, fmt.Sprint(is, ": Settle of ", n), a.Settle(n), api.ErrArg)
				holds(t, "behind it", a, is)
			}
			most := api.ErrQuota
			if is.pending+mostBytes <= bytes {
				most = api.OK
				is.live = mostBytes
			}
			same(t, fmt.Sprint(is, ": Settle of MaxQuota"), a.Settle(mostBytes), most)
			holds(t, "behind it", a, is)
		}
	}
}

// P15.5, Limits: at each Quota just what the pending bytes leave is taken.
func TestSettleUpToQuota(t *testing.T) {
	for _, bytes := range quotas() {
		for _, pending := range []int{0, 1, bytes / 2, bytes - 1, bytes} {
			if pending < 0 || pending > bytes {
				continue
			}
			a := brought(t, bytes, 0, counts{pending: pending})
			left := bytes - pending
			if left < mostBytes {
				same(t, "one too many", a.Settle(left+1), api.ErrQuota)
			}
			same(t, "just so many", a.Settle(left), api.OK)
			holds(t, "behind it", a, counts{live: left, pending: pending})
			same(t, "a byte more is pending", a.Charge(0, 1), api.ErrQuota)
			same(t, "none", a.Settle(0), api.OK)
			holds(t, "behind it", a, counts{pending: pending})
		}
	}
}

// P15.2 to P15.6: each call with numbers of every sort, at all counts of small accounts.
func TestEveryCallAtEveryCount(t *testing.T) {
	numbers := append(append(upTo(6), mostBytes-1, mostBytes), far()...)
	for bytes := range 5 {
		for open := range 3 {
			for _, is := range states(bytes, open, upTo(bytes)) {
				for _, c := range calls(numbers) {
					follow(t, brought(t, bytes, open, is), plain{bytes, open, is}, c)
				}
			}
		}
	}
}

// P15.2 to P15.6: each call at the edges of great accounts.
func TestEveryCallAtTheEdges(t *testing.T) {
	numbers := append([]int{0, 1, mostBytes/2 - 1, mostBytes / 2, mostBytes/2 + 1, mostBytes - 1, mostBytes}, far()...)
	for _, bytes := range []int{mostBytes/2 + 1, mostBytes - 1, mostBytes} {
		for _, is := range states(bytes, 1, numbers) {
			for _, c := range calls(numbers) {
				follow(t, brought(t, bytes, 1, is), plain{bytes, 1, is}, c)
			}
		}
	}
}

// P15.2 to P15.5, P15.7, the order of errors: an account that is not there.
func TestNoAccount(t *testing.T) {
	var none *quota.Account
	for _, c := range calls(append(far(), 0, 1, mostBytes)) {
		same(t, c.name+" of none", c.do(none), api.ErrNil)
		holds(t, "none behind it", none, counts{})
	}
}

// The chapter's examples of an account, one behind the other.
func TestExamples(t *testing.T) {
	a := made(t, 100, 2)
	row := func(code api.Errno, got api.Errno) {
		t.Helper()
		same(t, "the row", got, code)
	}
	row(api.OK, a.Begin())
	row(api.OK, a.Begin())
	row(api.ErrMany, a.Begin())
	same(t, "Open", a.Open(), 2)
	row(api.OK, a.Charge(0, 60))
	row(api.ErrQuota, a.Charge(0, 41))
	row(api.OK, a.Charge(0, 40))
	holds(t, "at Quota", a, counts{0, 100, 2})
	row(api.ErrQuota, a.Charge(60, 61))
	row(api.OK, a.Charge(60, 30))
	row(api.ErrArg, a.Charge(71, 0))
	row(api.ErrArg, a.Charge(-1, 0))
	holds(t, "70 are pending", a, counts{0, 70, 2})
	row(api.ErrQuota, a.Settle(31))
	row(api.OK, a.Settle(30))
	holds(t, "30 are live", a, counts{30, 70, 2})
	row(api.ErrArg, a.End(71))
	row(api.OK, a.End(70))
	holds(t, "one has ended", a, counts{30, 0, 1})
	row(api.ErrArg, a.Settle(-1))
	row(api.ErrArg, a.Settle(1<<20+1))
	row(api.ErrQuota, a.Settle(101))
	row(api.OK, a.Settle(100))
	holds(t, "100 are live", a, counts{100, 0, 1})
	row(api.OK, a.End(0))
	row(api.ErrArg, a.End(0))
}

// The chapter's examples of New.
func TestExamplesOfNew(t *testing.T) {
	for _, of := range []api.Account{{Quota: 1<<20 + 1}, {Open: 33}, {Quota: -1}} {
		_, code := quota.New(of)
		same(t, fmt.Sprint("New of ", of), code, api.ErrArg)
	}
	a, code := quota.New(api.Account{Queue: -5})
	same(t, "New of Quota 0, Open 0, Queue -5", code, api.OK)
	same(t, "Begin", a.Begin(), api.ErrMany)
	same(t, "Charge(0, 0)", a.Charge(0, 0), api.OK)
	same(t, "Charge(0, 1)", a.Charge(0, 1), api.ErrQuota)
}
