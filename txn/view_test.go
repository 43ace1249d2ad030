package txn_test

import (
	"fmt"
	"testing"

	"cloister/api"
	"cloister/quota"
	"cloister/txn"
)

// P17.7: no view, if one of the three is not there, ended or not.
func TestViewOfWhatIsNotThere(t *testing.T) {
	m := made(t, 0, []int{1}, 10)
	for range 2 {
		for _, x := range []*txn.Txn{nil, m.x} {
			for _, own := range []txn.Source{nil, filled()} {
				for _, a := range []*quota.Account{nil, m.a} {
					same(t, fmt.Sprint("a view: ", x != nil, own != nil, a != nil), x.View(own, a) != nil, x != nil && own != nil && a != nil)
				}
			}
		}
		m.end(t)
	}
}

// viewOf is a view that must be there.
func (m pack) viewOf(t *testing.T, own *shelf) *txn.View {
	t.Helper()
	v := m.x.View(own, m.a)
	if v == nil {
		t.Fatal("no view")
	}
	return v
}

// sameView holds each answer of a view's reads against the paper's of its own place.
func (m pack) sameView(t *testing.T, v *txn.View, own *shelf) {
	t.Helper()
	for _, key := range append(someKeys(), "", great(256)) {
		own.asked = nil
		got, is, code := v.Get(key)
		value, found, want, asked := m.p.get(m.p.place, key, own)
		same(t, fmt.Sprintf("a view's Get(%.20q)", key), fmt.Sprint(string(got), is, int(code)), fmt.Sprint(value, found, int(want)))
		sameList(t, "what it asks", own.asked, asked)
		for _, limit := range []int{-1, 0, 1, 3, 100, 101} {
			for _, to := range []string{"", "d", great(256)} {
				own.asked = nil
				l, more, code := v.Scan(key, to, limit)
				pairs, others, want, asked := m.p.scan(m.p.place, key, to, limit, own)
				what := fmt.Sprintf("a view's Scan(%.20q, %.20q, %d)", key, to, limit)
				sameList(t, what, pairsOf(l), pairs)
				same(t, what, fmt.Sprint(more, int(code)), fmt.Sprint(others, int(want)))
				sameList(t, "what it asks", own.asked, asked)
			}
		}
	}
}

// P17.7: a view's calls beside the transaction's: each sees what the other one wrote, and both charge the account.
func TestViewBesideTheTransaction(t *testing.T) {
	for place, v := range map[int][]int{0: {6}, 1: {-1, 6, -1}, 2: {6, 7, 6}} {
		m, s, other := made(t, place, v, 4400), filled(), filled()
		view, second := m.viewOf(t, s), m.viewOf(t, other)
		for i, w := range append(few(), put("", "no"), gone(great(256)), put("v", great(4097)), put("w", great(400)), put("b", "b"), gone("\xff"), put("w", great(400))) {
			want := m.p.do(place, w)
			what := fmt.Sprintf("the write %d of %.20q", i, w.key)
			switch {
			case i%3 == 0 && w.dead:
				same(t, what, m.x.Delete(place, w.key, m.a), want)
			case i%3 == 0:
				same(t, what, m.x.Put(place, w.key, []byte(w.value), m.a), want)
			case w.dead:
				same(t, what, view.Delete(w.key), want)
			default:
				same(t, what, view.Put(w.key, []byte(w.value)), want)
			}
			m.holds(t, what)
			m.sameView(t, view, s)
			m.sameView(t, second, other)
		}
		s.horizon = v[place] + 1
		m.sameView(t, view, s)
		m.sameView(t, second, other)
		s.horizon = v[place]
		m.sameView(t, view, s)
		m.end(t)
		m.sameView(t, view, s)
		m.sameView(t, second, other)
	}
}

// P17.7: each view has the source and the account that it was made with.
func TestViewsOfUnlikeSourcesAndAccounts(t *testing.T) {
	m := made(t, 0, []int{5}, 10)
	b, _ := quota.New(api.Account{Quota: 3, Open: 1})
	one, two := shelfOf(version{1, put("k", "one")}), shelfOf(version{1, put("k", "two")})
	v, w := m.x.View(one, m.a), m.x.View(two, b)
	x, _, _ := v.Get("k")
	y, _, _ := w.Get("k")
	same(t, "what both tell", string(x)+string(y), "onetwo")
	same(t, "four bytes", w.Put("a", []byte("123")), api.ErrQuota)
	same(t, "three bytes", w.Put("a", []byte("12")), api.OK)
	same(t, "four bytes", v.Put("b", []byte("123")), api.OK)
	same(t, "what is pending", fmt.Sprint(m.a.Pending(), b.Pending()), "4 3")
}

// P17.7: of views of two transactions each goes on with its own one.
func TestViewsOfTwoTransactions(t *testing.T) {
	m, n := made(t, 0, []int{5, 5}, 10), made(t, 1, []int{3, 8}, 10)
	s := filled()
	v, w := m.viewOf(t, s), n.viewOf(t, s)
	same(t, "Put", v.Put("a", []byte("m")), m.p.do(0, put("a", "m")))
	same(t, "Delete", w.Delete("a"), n.p.do(1, gone("a")))
	m.holds(t, "the first one")
	n.holds(t, "the second one")
	m.sameView(t, v, s)
	n.sameView(t, w, s)
	m.end(t)
	m.sameView(t, v, s)
	n.sameView(t, w, s)
}

// P17.7: of a view that is not there each call answers ErrNil, whatever it is given.
func TestCallsOfNoView(t *testing.T) {
	var none *txn.View
	for _, v := range []*txn.View{none, (*txn.Txn)(nil).View(nil, nil)} {
		for _, key := range []string{"", "k", great(256)} {
			b, is, code := v.Get(key)
			same(t, "Get", fmt.Sprint(b == nil, is, int(code)), "true false 1")
			for _, limit := range []int{-1, 0, 1, 101} {
				l, more, code := v.Scan(key, key, limit)
				same(t, "Scan", fmt.Sprint(l == nil, more, int(code)), "true false 1")
			}
			same(t, "Put", v.Put(key, make([]byte, 5000)), api.ErrNil)
			same(t, "Put", v.Put(key, nil), api.ErrNil)
			same(t, "Delete", v.Delete(key), api.ErrNil)
		}
	}
}
