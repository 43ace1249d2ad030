package label

import "cloister/api"

// May tells whether a config may be.
func May(c api.Config) bool {
	if Check(c.Labels) != api.OK || len(c.Accounts) != len(c.Labels) || len(c.Sessions) > api.MaxSessions {
		return false
	}
	for _, a := range c.Accounts {
		if !mayBe(a) {
			return false
		}
	}
	for _, place := range c.Sessions {
		if !within(place, len(c.Labels)-1) {
			return false
		}
	}
	return true
}

// mayBe tells whether an account's numbers are all within their limits.
func mayBe(a api.Account) bool {
	return within(a.Quota, api.MaxQuota) && within(a.Open, api.MaxOpen) && within(a.Queue, api.MaxQueue) &&
		within(a.Window, api.MaxWindow) && within(a.Start, api.MaxStamp)
}

func within(n, most int) bool { return 0 <= n && n <= most }
