package label_test

import (
	"fmt"
	"math"
	"testing"

	"cloister/api"
	"cloister/label"
)

// P1.7: each number of an account, at each place.
func TestMayAccounts(t *testing.T) {
	for _, number := range []struct {
		name string
		most int
		of   func(a *api.Account) *int
	}{
		{"Quota", api.MaxQuota, func(a *api.Account) *int { return &a.Quota }},
		{"Open", api.MaxOpen, func(a *api.Account) *int { return &a.Open }},
		{"Queue", api.MaxQueue, func(a *api.Account) *int { return &a.Queue }},
		{"Window", api.MaxWindow, func(a *api.Account) *int { return &a.Window }},
		{"Start", api.MaxStamp, func(a *api.Account) *int { return &a.Start }},
	} {
		for place := range 3 {
			for _, n := range []int{math.MinInt, -1, 0, 1, number.most - 1, number.most, number.most + 1, math.MaxInt} {
				c := config(3)
				*number.of(&c.Accounts[place]) = n
				what := fmt.Sprintf("%s %d at the place %d", number.name, n, place)
				same(t, what, label.May(c), 0 <= n && n <= number.most)
			}
		}
	}
	most := api.Account{Quota: api.MaxQuota, Open: api.MaxOpen, Queue: api.MaxQueue, Window: api.MaxWindow, Start: api.MaxStamp}
	same(t, "all numbers the greatest", label.May(api.Config{Labels: set(7), Accounts: []api.Account{most}}), true)
}

// P1.7: as many accounts as labels.
func TestMayCounts(t *testing.T) {
	for _, labels := range []int{1, 2, 16} {
		for _, accounts := range []int{0, 1, 2, 3, 15, 16, 17} {
			c := config(labels)
			c.Accounts = make([]api.Account, accounts)
			what := fmt.Sprintf("%d labels, %d accounts", labels, accounts)
			same(t, what, label.May(c), labels == accounts)
		}
	}
}

// P1.7: the labels are a lattice.
func TestMayLabels(t *testing.T) {
	same(t, "a config of nothing", label.May(api.Config{}), false)
	for _, labels := range append(lists(), chainOf(16), chainOf(17)) {
		c := api.Config{Labels: labels, Accounts: make([]api.Account, len(labels))}
		same(t, fmt.Sprint("the labels ", labels), label.May(c), label.Check(labels) == api.OK)
	}
}

// P1.7: so many sessions, each at a place.
func TestMaySessions(t *testing.T) {
	for _, n := range []int{0, 1, 31, 32, 33, 1000} {
		c := config(1)
		c.Sessions = make([]int, n)
		same(t, fmt.Sprint(n, " sessions"), label.May(c), n <= 32)
	}
	for _, labels := range []int{1, 4, 16} {
		for _, place := range []int{math.MinInt, -1, 0, 1, labels - 1, labels, labels + 1, math.MaxInt} {
			for session := range 3 {
				c := config(labels)
				c.Sessions = make([]int, 3)
				c.Sessions[session] = place
				what := fmt.Sprintf("%d labels, the session %d at the place %d", labels, session, place)
				same(t, what, label.May(c), 0 <= place && place < labels)
			}
		}
	}
}
