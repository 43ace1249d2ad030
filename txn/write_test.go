package txn_test

import (
	"fmt"
	"testing"

	"cloister/api"
	"cloister/quota"
)

// P17.5: each error and its rank, of a Put and of a Delete, with an account and without one, with room left and without; what is refused changes nothing.
func TestPutAndDelete(t *testing.T) {
	keys := []string{"", "k", "j", great(255), great(256), great(5000)}
	values := []string{"", "v", "vv", "vvvv", great(4096), great(4097), great(1 << 21)}
	for _, ended := range []bool{false, true} {
		for _, room := range []int{3, 5000, 1 << 20} {
			for _, place := range places() {
				for _, key := range keys {
					m := made(t, ownPlace, vector(), room)
					m.do(t, ownPlace, put("k", "vv"))
					if ended {
						m.end(t)
					}
					same(t, "Put without an account", m.x.Put(place, key, make([]byte, 5000), nil), api.ErrNil)
					same(t, "Delete without an account", m.x.Delete(place, key, nil), api.ErrNil)
					m.holds(t, "behind writes without an account")
					for _, value := range values {
						m.do(t, place, put(key, value))
						m.holds(t, fmt.Sprintf("room %d: a Put of %.20q at %d", room, key, place))
					}
					m.do(t, place, gone(key))
					m.holds(t, fmt.Sprintf("room %d: a Delete of %.20q at %d", room, key, place))
				}
			}
		}
	}
}

// P17.5: what is charged of a first write, of a longer and a shorter one over it, of a delete over a put and a put over a delete.
func TestWhatIsCharged(t *testing.T) {
	m := made(t, 0, []int{0}, 12)
	for _, x := range []struct {
		write
		code    api.Errno
		pending int
	}{
		{put("key", "12"), api.OK, 5}, {put("key", "1234"), api.OK, 7}, {put("key", "1"), api.OK, 4}, {put("key", ""), api.OK, 3}, {put("key", "1"), api.OK, 4},
		{gone("key"), api.OK, 3}, {gone("key"), api.OK, 3}, {put("key", "12345"), api.OK, 8}, {put("k", ""), api.OK, 9}, {gone("l"), api.OK, 10}, {gone("mno"), api.ErrQuota, 10},
		{put("key", "1234567"), api.OK, 12}, {put("key", "12345678"), api.ErrQuota, 12}, {put("k", "1"), api.ErrQuota, 12}, {put("l", "1"), api.ErrQuota, 12}, {gone("m"), api.ErrQuota, 12}, {put("key", "7654321"), api.OK, 12},
		{gone("key"), api.OK, 5}, {put("mn", "12345"), api.OK, 12}, {gone("mn"), api.OK, 7}, {put("mn", "123456"), api.ErrQuota, 7}, {put("", "1"), api.ErrKey, 7}, {put("l", great(4097)), api.ErrValue, 7},
	} {
		what := fmt.Sprintf("a write %v", x.write)
		same(t, what, m.p.do(0, x.write), x.code)
		if x.dead {
			same(t, what, m.x.Delete(0, x.key, m.a), x.code)
		} else {
			same(t, what, m.x.Put(0, x.key, []byte(x.value), m.a), x.code)
		}
		same(t, what+": Pending", m.a.Pending(), x.pending)
		m.holds(t, what)
	}
	m.end(t)
	same(t, "Pending behind the end", m.a.Pending(), 0)
}

// P17.5: live bytes and those of others leave less room, byte by byte.
func TestQuota(t *testing.T) {
	for live := range 6 {
		for others := range 6 {
			for size := 1; size < 12; size++ {
				m := made(t, 0, []int{0}, 10)
				m.a.Settle(live)
				m.a.Charge(0, others)
				m.p.live, m.p.others = live, others
				m.holds(t, "ahead of all writes")
				m.do(t, 0, put("k", great(size-1)))
				m.holds(t, "behind a Put")
				m.do(t, 0, put("k", great(size)))
				m.holds(t, "behind one over it")
				m.do(t, 0, gone(great(size)))
				m.holds(t, "behind a Delete")
			}
		}
	}
}

// P17.5: with an account that knows nothing of a write, its charge is refused as that account refuses it, and nothing has changed.
func TestChargeOfAnotherAccount(t *testing.T) {
	m := written(t, 0, []int{0}, put("k", "vv"))
	b, _ := quota.New(api.Account{Quota: 5, Open: 1})
	same(t, "Put over what was not charged there", m.x.Put(0, "k", []byte("w"), b), api.ErrArg)
	same(t, "Delete over it", m.x.Delete(0, "k", b), api.ErrArg)
	same(t, "a Put that is too great there", m.x.Put(0, "l", make([]byte, 5), b), api.ErrQuota)
	same(t, "End", m.x.End(b), api.ErrArg)
	same(t, "Begin", b.Begin(), api.OK)
	same(t, "End", m.x.End(b), api.ErrArg)
	same(t, "what is pending there", b.Pending(), 0)
	same(t, "what is open there", b.Open(), 1)
	m.holds(t, "behind what was refused")
	same(t, "Put of another key", m.x.Put(0, "l", []byte("1234"), b), api.OK)
	same(t, "what is pending there", b.Pending(), 5)
	same(t, "End of more than is pending there", m.x.End(b), api.ErrArg)
	same(t, "what is pending there", b.Pending(), 5)
	same(t, "not ended", m.x.Ended(), false)
	same(t, "Put over it", m.x.Put(0, "l", nil, b), api.OK)
	same(t, "what is pending there", b.Pending(), 1)
}

// P17.5: whether a transaction is open in the account is not asked ahead of an End.
func TestWritesWithoutAnOpenTransaction(t *testing.T) {
	m := made(t, 0, []int{0}, 10)
	same(t, "End of another one", m.a.End(0), api.OK)
	m.p.open = 0
	m.do(t, 0, put("k", "v"))
	m.holds(t, "a Put")
	m.end(t)
	m.holds(t, "an End that is refused")
	m.do(t, 0, put("k", "w"))
	m.do(t, 0, gone("l"))
	m.holds(t, "writes behind it")
	same(t, "Begin", m.a.Begin(), api.OK)
	m.p.open = 1
	m.end(t)
	m.holds(t, "an End")
}

// P17.6: each error, with writes and without; what is pending behind it; that of others stays.
func TestEnd(t *testing.T) {
	for _, writes := range [][]write{nil, {put("k", "")}, {gone("k")}, few()} {
		for _, others := range []int{0, 1, 77} {
			m := written(t, 0, []int{0, -1}, writes...)
			m.a.Charge(0, others)
			m.a.Settle(9)
			m.p.others, m.p.live = others, 9
			same(t, "End without an account", m.x.End(nil), api.ErrNil)
			m.holds(t, "behind it")
			m.end(t)
			m.holds(t, "behind an End")
			same(t, "Pending", m.a.Pending(), others)
			same(t, "Used", m.a.Used(), others+9)
			same(t, "End without an account, behind an End", m.x.End(nil), api.ErrNil)
			m.end(t)
			same(t, "Begin", m.a.Begin(), api.OK)
			m.p.open++
			m.end(t)
			m.holds(t, "behind further Ends")
		}
	}
}

// P17.6: behind an end nothing is read, written or charged any more, by nobody.
func TestEveryCallBehindAnEnd(t *testing.T) {
	m := written(t, ownPlace, vector(), few()...)
	s := filled()
	v := m.x.View(s, m.a)
	m.end(t)
	for _, place := range places() {
		for _, key := range append(someKeys(), "", great(256)) {
			m.sameGet(t, "behind the end", place, key, s)
			m.sameScan(t, "behind the end", place, key, "", 5, s)
			m.do(t, place, put(key, "v"))
			m.do(t, place, put(key, great(4097)))
			m.do(t, place, gone(key))
		}
	}
	m.holds(t, "behind it")
	for _, view := range [](interface {
		Put(string, []byte) api.Errno
		Delete(string) api.Errno
		Get(string) ([]byte, bool, api.Errno)
		Scan(string, string, int) ([]api.Pair, bool, api.Errno)
	}){v, m.x.View(s, m.a)} {
		_, _, get := view.Get("a")
		_, _, scan := view.Scan("", "", 0)
		same(t, "a view's calls", fmt.Sprint(int(get), int(scan), int(view.Put("", nil)), int(view.Delete("a"))), "173 173 173 173")
	}
	sameList(t, "what is asked", s.asked, nil)
	m.holds(t, "behind a view's calls")
}
