package fetch_test

import (
	"fmt"
	"strconv"
	"strings"
	"testing"

	"cubbyhole/api"
	"cubbyhole/fetch"
)

func is(t *testing.T, want string) func(got ...any) {
	return func(got ...any) {
		t.Helper()
		if s := fmt.Sprint(got); s != "["+want+"]" {
			t.Errorf("got %s, want %s", s, want)
		}
	}
}

func fetcher(t *testing.T, count, bytes int) *fetch.Fetch {
	t.Helper()
	f, e := fetch.New(api.Config{Count: count, Bytes: bytes})
	if e != api.OK {
		t.Fatal(e)
	}
	return f
}

func TestExamples(t *testing.T) {
	f := fetcher(t, 2, 1000)
	is(t, "{2 [] 1} 0")(f.Ask(0, "k", 1))
	is(t, "{3 [] 1} 0")(f.Ask(0, "k", 2))
	is(t, "{3 [] 1} 0")(f.Ask(1, "k", 3))
	is(t, "{0 [] 0} 11")(f.Ask(1, "j", 2))
	is(t, "[{1 k 1 [2 3] false}]")(f.Loads())
	is(t, "9 0")(f.Leave(1, 1), f.Leave(1, 2))
	is(t, "[{1 [118] 0} {3 [118] 0}] 0")(f.End(2, 1, []byte("v"), 10))
	is(t, "{1 [118] 0} 0")(f.Ask(3, "k", 1))
	is(t, "{2 [] 2} 0")(f.Ask(12, "k", 4))
	is(t, "false 0")(f.Drop(12, "k"))
	is(t, "[{2 k 4 [] true}]")(f.Loads())
	is(t, "[{4 [119] 0}] 0")(f.End(13, 2, []byte("w"), 0))
	is(t, "{2 [] 3} 0")(f.Ask(13, "k", 4))
	is(t, "[{4 [] 8}] 0")(f.Fail(14, 3, api.ErrState))
	is(t, "[] 9")(f.End(14, 3, []byte("x"), 0))
	is(t, "[] 14")(f.Loads(), f.Cache().Now())
}

func TestErrors(t *testing.T) {
	for want, c := range map[api.Errno]api.Config{240: {}, 241: {Count: 1}, 242: {Count: 1, Bytes: 1, Protected: -1}} {
		if f, e := fetch.New(c); f != nil || e != want {
			t.Error(e)
		}
	}
	for _, f := range []*fetch.Fetch{nil, {}} {
		is(t, "{0 [] 0} 1")(f.Ask(0, "", -1))
		is(t, "[] 1")(f.End(0, 1, nil, 0))
		is(t, "[] 1")(f.Fail(0, 1, 0))
		is(t, "false 1")(f.Drop(0, ""))
		is(t, "1 [] true true")(f.Leave(1, -1), f.Loads(), f.Cache() == nil, f.Copy() == nil)
	}
	f := fetcher(t, 5, 1000)
	_, _ = f.Ask(1, "k", 7)
	was := fmt.Sprint(f.Cache().State(), f.Loads())
	for _, c := range []struct {
		key string
		who int
		e   api.Errno
	}{{"", 1, 2}, {strings.Repeat("k", 251), 1, 2}, {"k", -1, 2}, {"k", 1001, 2}, {"", 7, 2}, {"k", 7, 11}, {"j", 7, 11}} {
		a, e := f.Ask(9, c.key, c.who)
		is(t, fmt.Sprint("{0 [] 0} ", int(c.e)))(a, e)
	}
	is(t, "false 2")(f.Drop(9, ""))
	is(t, "[] 9")(f.End(9, 2, make([]byte, 65537), 0))
	is(t, "[] 9")(f.End(9, 0, nil, 0))
	is(t, "[] 9")(f.End(9, -1, nil, 0))
	is(t, "[] 5")(f.End(9, 1, make([]byte, 65537), 0))
	is(t, "[] 9")(f.Fail(9, 2, 0))
	is(t, "[] 2")(f.Fail(9, 1, api.OK))
	is(t, "[] 2")(f.Fail(9, 1, -1))
	is(t, "2 2 9 9 9")(f.Leave(1, -1), f.Leave(2, 1001), f.Leave(2, 5), f.Leave(1, 5), f.Leave(1, 7))
	is(t, was)(fmt.Sprint(f.Cache().State(), f.Loads()))
	is(t, "{3 [] 1} 0")(f.Ask(1, "k", 0))
	is(t, "{3 [] 1} 0")(f.Ask(1, "k", 1000))
}

func TestFull(t *testing.T) {
	f := fetcher(t, 5, 1000)
	for i := range fetch.MaxLoads {
		is(t, fmt.Sprint("{2 [] ", i+1, "} 0"))(f.Ask(0, strconv.Itoa(i), i))
	}
	is(t, "{0 [] 0} 7")(f.Ask(5, "x", 100))
	is(t, "5 64")(f.Cache().Now(), len(f.Loads()))
	is(t, "{3 [] 8} 0")(f.Ask(4, "7", 100))
	is(t, "[{7 [118] 0} {100 [118] 0}] 0")(f.End(4, 8, []byte("v"), 0))
	is(t, "{1 [118] 0} 0")(f.Ask(6, "7", 100))
	is(t, "{2 [] 65} 0")(f.Ask(6, "x", 100))
	is(t, "{0 [] 0} 7")(f.Ask(6, "y", 101))
	is(t, "{1 [118] 0} 0")(f.Ask(6, "7", 101))
}

func TestEnd(t *testing.T) {
	f := fetcher(t, 5, 100)
	_, _ = f.Ask(3, "a", 1)
	is(t, "[{1 "+fmt.Sprint(make([]byte, 60))+" 0}] 0")(f.End(9, 1, make([]byte, 60), 0)) // too big
	is(t, "3 0")(f.Cache().Now(), f.Cache().Len())
	_, _ = f.Ask(3, "a", 1)
	is(t, "[{1 [] 77}] 0")(f.Fail(8, 2, 77))
	is(t, "8")(f.Cache().Now())
	_, _ = f.Ask(8, "a", 1)
	_, _ = f.Ask(8, "a", 2)
	_, _ = f.Ask(8, "a", 0)
	v := []byte{1}
	l, e := f.End(9, 3, v, 5)
	v[0], l[0].Value[0] = 9, 8
	is(t, "[{1 [8] 0} {2 [1] 0} {0 [1] 0}] 0")(l, e)
	x, there, _ := f.Cache().Peek(9, "a")
	is(t, "{a [1] 14 1} true []")(x, there, f.Cache().Drain())
	is(t, "true 0")(f.Drop(10, "a"))
	_, _ = f.Ask(10, "a", 5)
	_, _ = f.Drop(11, "a")
	_, _ = f.Drop(11, "b")
	is(t, "{3 [] 4} 0")(f.Ask(11, "a", 6))
	is(t, "[{5 [7] 0} {6 [7] 0}] 0")(f.End(20, 4, []byte{7}, 0))
	_, _ = f.Ask(11, "c", 9)
	l, e = f.End(11, 5, make([]byte, 65536), 0)
	is(t, "65536 0")(len(l[0].Value), e)
	is(t, "11 0 []")(f.Cache().Now(), f.Cache().Len(), f.Cache().State().Events)
}

func TestCopy(t *testing.T) {
	f := fetcher(t, 5, 1000)
	_, _ = f.Ask(1, "a", 1)
	_, _ = f.Ask(1, "a", 2)
	_, _ = f.Ask(1, "b", 3)
	x := f.Copy()
	_, _ = x.Ask(2, "a", 4)
	_, _ = x.Drop(2, "a")
	_ = x.Leave(1, 2)
	_, _ = x.End(2, 2, nil, 0)
	l := f.Loads()
	l[0].Waiters[0] = 99
	f.Cache().Set(9, "q", nil)
	is(t, "[{1 a 1 [2] false} {2 b 3 [] false}] 1 0")(f.Loads(), f.Cache().Now(), f.Cache().Len())
	is(t, "[{1 a 1 [4] true}] 2 1")(x.Loads(), x.Cache().Now(), x.Cache().Len())
	is(t, "{2 [] 3} 0")(f.Ask(3, "c", 9))
	is(t, "{2 [] 3} 0")(x.Ask(3, "d", 9))
}
