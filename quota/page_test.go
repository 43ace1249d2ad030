package quota_test

import (
	"fmt"
	"math/rand"
	"testing"

	"cloister/api"
	"cloister/quota"
)

// Memory, W1: accounts know nothing of each other: each of several ones, some of them made alike, goes on by its own calls alone.
func TestAccountsBesideEachOther(t *testing.T) {
	r := rand.New(rand.NewSource(150))
	for range 30 {
		var accounts []*quota.Account
		var words []plain
		for range 12 {
			p := plain{quota: []int{5, 5, 100, mostBytes}[r.Intn(4)], open: []int{1, 1, 4, mostOpen}[r.Intn(4)]}
			accounts, words = append(accounts, made(t, p.quota, p.open)), append(words, p)
		}
		for range 200 {
			i := r.Intn(len(accounts))
			words[i].is = follow(t, accounts[i], words[i], callBy(r, words[i]))
			for j, a := range accounts {
				holds(t, fmt.Sprint("the account ", j, " behind a call of ", i), a, words[j].is)
			}
		}
	}
}

// Memory: a New, taken or refused, changes no account that is there.
func TestNewChangesNoAccount(t *testing.T) {
	is := counts{2, 3, 1}
	a := brought(t, 5, 1, is)
	brought(t, 100, 4, counts{40, 60, 4})
	quota.New(api.Account{Quota: -1})
	quota.New(api.Account{Open: mostOpen + 1})
	made(t, 5, 1)
	made(t, 0, 0)
	holds(t, "the first one", a, is)
	same(t, "Begin", a.Begin(), api.ErrMany)
	same(t, "a byte", a.Charge(0, 1), api.ErrQuota)
	same(t, "all anew", a.Charge(3, 3), api.OK)
	same(t, "End", a.End(3), api.OK)
	holds(t, "the first one", a, counts{live: 2})
}

// Memory: what is handed in to New is not kept: an account of it that is changed behind the call changes no limit.
func TestNothingKept(t *testing.T) {
	of := api.Account{Quota: 5, Open: 1}
	a, code := quota.New(of)
	same(t, "New", code, api.OK)
	same(t, "what was handed in", of, api.Account{Quota: 5, Open: 1})
	of.Quota, of.Open = 100, 9
	same(t, "six bytes", a.Charge(0, 6), api.ErrQuota)
	same(t, "Begin", a.Begin(), api.OK)
	same(t, "one more", a.Begin(), api.ErrMany)
}

// W0: every call ends at numbers of every greatness, and none panics; no account stands beside an error.
func TestEveryCallEnds(t *testing.T) {
	numbers := append(far(), 0, 1, mostOpen, mostOpen+1, mostBytes)
	for _, bytes := range numbers {
		for _, open := range numbers {
			a, code := quota.New(api.Account{Quota: bytes, Open: open, Queue: open, Window: bytes, Start: open})
			same(t, fmt.Sprint("New of ", bytes, ", ", open), a == nil, code != api.OK)
			for _, c := range calls(numbers) {
				c.do(a)
			}
			a.Used()
			a.Pending()
			a.Open()
		}
	}
	for _, c := range calls(numbers) {
		c.do(&quota.Account{})
		c.do(new(quota.Account))
	}
}
