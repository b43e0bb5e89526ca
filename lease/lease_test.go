package lease_test

import (
	"fmt"
	"strconv"
	"strings"
	"testing"

	"cubbyhole/api"
	"cubbyhole/lease"
)

func is(t *testing.T, want string) func(got ...any) {
	return func(got ...any) {
		t.Helper()
		if s := fmt.Sprint(got); s != "["+want+"]" {
			t.Errorf("got %s, want %s", s, want)
		}
	}
}

func lender(t *testing.T, bytes int, life api.Time) *lease.Lender {
	t.Helper()
	l, e := lease.New(api.Config{Count: 2000, Bytes: bytes}, life)
	if e != api.OK {
		t.Fatal(e)
	}
	return l
}

const hit, wait = "1 [118] 0 0", "3 [] 0 0"

func given(token int) string { return fmt.Sprint("2 [] ", token, " 0") }

var v, old = []byte("v"), []byte("old")

func TestExamples(t *testing.T) {
	l := lender(t, 1000, 5)
	is(t, given(1))(l.Ask(0, "k"))
	is(t, wait)(l.Ask(4, "k"))
	is(t, given(2))(l.Ask(5, "k"))
	is(t, "9 0")(l.Fill(6, 1, old, 0), l.Fill(6, 2, v, 3))
	is(t, hit)(l.Ask(8, "k"))
	is(t, given(3))(l.Ask(9, "k"))
	is(t, "false 0")(l.Delete(9, "k"))
	is(t, "9")(l.Fill(9, 3, old, 0))
	is(t, given(4))(l.Ask(9, "k"))
	is(t, "0")(l.Renew(13, 4))
	is(t, wait)(l.Ask(17, "k"))
	is(t, "0")(l.Return(4))
	is(t, given(5))(l.Ask(17, "k"))
	is(t, "[{5 k 22}]")(l.Leases())
}

func TestErrors(t *testing.T) {
	for _, life := range []api.Time{0, 1<<40 + 1, api.Never} {
		l, e := lease.New(api.Config{}, life)
		is(t, "true 2")(l == nil, e)
	}
	for want, c := range map[api.Errno]api.Config{240: {}, 241: {Count: 1}, 242: {Count: 1, Bytes: 1, Protected: -1}} {
		l, e := lease.New(c, 1)
		is(t, fmt.Sprint(true, int(want)))(l == nil, e)
	}
	for _, l := range []*lease.Lender{nil, {}} {
		is(t, "0 [] 0 1")(l.Ask(0, ""))
		is(t, "false 1")(l.Delete(0, ""))
		is(t, "1 1 1 1 [] true true")(l.Fill(0, 1, make([]byte, 70000), 0), l.Renew(0, 1), l.Return(1), l.Set(0, "", nil, 0), l.Leases(), l.Cache() == nil, l.Copy() == nil)
	}
	l := lender(t, 100, 1<<40)
	is(t, given(1))(l.Ask(3, "k"))
	_ = l.Set(3, "x", v, 0)
	_ = l.Set(3, "x", v, 0)
	was := fmt.Sprint(l.Cache().State(), l.Leases())
	long := make([]byte, 65537)
	is(t, "0 [] 0 2")(l.Ask(9, ""))
	is(t, "false 2")(l.Delete(9, strings.Repeat("k", 251)))
	is(t, "2 2 5 12 12 5 9 9 9")(l.Set(9, "", nil, 0), l.Set(9, "", long, 0), l.Set(9, "k", long, 0), l.Set(9, "k", make([]byte, 52), 0), l.Set(9, "k", make([]byte, 52), 7), l.Fill(9, 1, long, 0), l.Return(2), l.Return(0), l.Return(-1))
	is(t, "5")(l.Fill(9, 7, long, 0))
	is(t, was)(fmt.Sprint(l.Cache().State(), l.Leases()))
	is(t, "9 9")(l.Fill(9, 2, v, 0), l.Cache().Now())
	is(t, "9 11")(l.Renew(11, 2), l.Cache().Now())
	is(t, "12 13 [{1 k 1099511627779}]")(l.Fill(13, 1, make([]byte, 52), 0), l.Cache().Now(), l.Leases())
	is(t, "0 []")(l.Fill(13, 1, make([]byte, 51), 0), l.Leases())
	is(t, "9")(l.Fill(13, 1, v, 0))
}

func TestOver(t *testing.T) {
	l := lender(t, 1000, 5)
	_, _, _, _ = l.Ask(0, "a")
	_, _, _, _ = l.Ask(2, "b")
	is(t, "9 [{2 b 7}] 5")(l.Renew(5, 1), l.Leases(), l.Cache().Now())
	is(t, "9 0 9")(l.Return(1), l.Renew(6, 2), l.Fill(11, 2, v, 0))
	is(t, given(3))(l.Ask(11, "a"))
	is(t, "0 []")(l.Set(16, "c", v, 0), l.Leases())
	is(t, given(4))(l.Ask(16, "a"))
	is(t, given(5))(l.Ask(17, "b"))
	is(t, "0 [{5 b 22}]")(l.Set(18, "a", v, 2), l.Leases())
	is(t, hit)(l.Ask(19, "a"))
	is(t, given(6))(l.Ask(20, "a")) // its deadline has come
	is(t, "0")(l.Fill(20, 6, v, 0))
	is(t, "true 0")(l.Delete(20, "a"))
	is(t, "false 0")(l.Delete(20, "b"))
	is(t, "[]")(l.Leases())
	is(t, given(7))(l.Ask(api.Never-1, "a"))
	is(t, wait)(l.Ask(api.Never, "a"))
	is(t, "[{7 a 18446744073709551615}] 0")(l.Leases(), l.Fill(api.Never, 7, v, 1))
	is(t, hit)(l.Ask(0, "a"))
}

func TestFull(t *testing.T) {
	l := lender(t, 1<<20, 5)
	for i := range lease.MaxLeases {
		is(t, given(i+1))(l.Ask(0, strconv.Itoa(i)))
	}
	is(t, "0 [] 0 7")(l.Ask(3, "x"))
	is(t, "3 1000")(l.Cache().Now(), len(l.Leases()))
	is(t, wait)(l.Ask(3, "77"))
	is(t, "0")(l.Return(78))
	is(t, given(1001))(l.Ask(3, "x"))
	is(t, "0 [] 0 7")(l.Ask(3, "77"))
	is(t, "0")(l.Fill(3, 2, v, 0))
	is(t, "1 [118] 0 0")(l.Ask(3, "1"))
	is(t, given(1002))(l.Ask(3, "77"))
	is(t, given(1003))(l.Ask(5, "y"))
	is(t, "[{1001 x 8} {1002 77 8} {1003 y 10}]")(l.Leases())
}

func TestCopy(t *testing.T) {
	l := lender(t, 1000, 5)
	_, _, _, _ = l.Ask(0, "a")
	_, _, _, _ = l.Ask(0, "b")
	x := l.Copy()
	w := []byte("v")
	is(t, "0 0")(x.Fill(1, 1, w, 0), x.Return(2))
	w[0] = 'w'
	_, got, _, _ := x.Ask(1, "a")
	got[0] = 'w'
	is(t, hit)(x.Ask(1, "a"))
	is(t, given(3))(x.Ask(1, "c"))
	_ = x.Cache().Set(9, "q", nil)
	is(t, "[{1 a 5} {2 b 5}] 0 0 [{3 c 6}] 1 1")(l.Leases(), l.Cache().Len(), l.Cache().Now(), x.Leases(), x.Cache().Len(), x.Cache().Now())
	is(t, wait)(l.Ask(1, "a"))
	is(t, given(3))(l.Ask(1, "d"))
	// the events of a call are drained by a later one
	_ = x.Set(1, "a", v, 0)
	is(t, "1")(len(x.Cache().Drain()))
	_, _, _, _ = x.Ask(1, "a")
	is(t, "0")(len(x.Cache().Drain()))
}

func TestBounds(t *testing.T) {
	l := lender(t, 70000, 1<<40)
	_, _, _, _ = l.Ask(0, "k")
	x := l.Copy()
	is(t, "0 0 0")(x.Return(1), l.Fill(0, 1, make([]byte, 65536), 0), x.Set(0, "k", make([]byte, 65536), 0))
	small := lender(t, 100, 5)
	is(t, "0 12")(small.Set(0, "k", make([]byte, 51), 0), small.Set(0, "k", make([]byte, 52), 0))
	y := lender(t, 1000, 5)
	_, _, _, _ = y.Ask(0, "k")
	z := y.Copy()
	is(t, "0 0 9 9")(z.Return(1), y.Return(1), z.Return(1), y.Return(1))
}

// TestEvents looks at the events of a call, which later ones drain.
func TestEvents(t *testing.T) {
	l := lender(t, 1000, 5)
	_, _, _, _ = l.Ask(0, "q")
	for i, f := range []func(){
		func() { _ = l.Set(0, "k", old, 0) }, func() { _, _ = l.Delete(0, "k") }, func() { _ = l.Renew(0, 1) }, func() { _ = l.Set(0, "a", v, 2) }, func() { _ = l.Set(0, "a", v, 2) }, func() { _ = l.Fill(0, 1, v, 0) },
	} {
		_ = l.Set(0, "k", v, 0)
		f()
		if n := len(l.Cache().Drain()); n != []int{1, 1, 0, 0, 1, 0}[i] {
			t.Error(i, n)
		}
	}
}
