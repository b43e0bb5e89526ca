package stale_test

import (
	"fmt"
	"strconv"
	"testing"

	"cubbyhole/api"
	"cubbyhole/stale"
)

func is(t *testing.T, want string) func(got ...any) {
	return func(got ...any) {
		t.Helper()
		if s := fmt.Sprint(got); s != "["+want+"]" {
			t.Errorf("got %s, want %s", s, want)
		}
	}
}

func rule(fresh, grace, nothing, retry api.Time) api.StaleRule {
	return api.StaleRule{Fresh: fresh, Grace: grace, Nothing: nothing, Retry: retry}
}

func store(t *testing.T, bytes int, r api.StaleRule) *stale.Stale {
	t.Helper()
	s, e := stale.New(api.Config{Count: 1000, Bytes: bytes}, r)
	if e != api.OK {
		t.Fatal(e)
	}
	return s
}

const fresh, old, lead, nothing, miss, wait = "1 [118] 0", "2 [118] 0", "3 [118] 0", "4 [] 0", "5 [] 0", "6 [] 0"

var v = []byte("v")

func TestExamples(t *testing.T) {
	s := store(t, 1000, rule(10, 5, 3, 4))
	is(t, miss)(s.Ask(0, "k"))
	is(t, wait)(s.Ask(3, "k"))
	is(t, miss)(s.Ask(4, "k"))
	is(t, "0")(s.Put(5, "k", v))
	is(t, fresh)(s.Ask(14, "k"))
	is(t, lead)(s.Ask(15, "k"))
	is(t, old)(s.Ask(16, "k"))
	is(t, "0")(s.Fail(17, "k"))
	is(t, lead)(s.Ask(17, "k"))
	is(t, wait)(s.Ask(20, "k"))
	is(t, "0")(s.Nothing(20, "k"))
	is(t, nothing)(s.Ask(22, "k"))
	is(t, miss)(s.Ask(23, "k"))
	is(t, "[k]")(s.Loads())
}

func TestErrors(t *testing.T) {
	good := rule(1, 0, 1, 1)
	for _, r := range []api.StaleRule{{}, rule(0, 1, 1, 1), rule(1, 1, 0, 1), rule(1, 1, 1, 0), rule(1<<40+1, 1, 1, 1), rule(1, 1<<40+1, 1, 1), rule(1, 1, 1<<40+1, 1), rule(1, 1, 1, 1<<40+1), rule(1, api.Never, 1, 1)} {
		s, e := stale.New(api.Config{}, r)
		is(t, "true 2")(s == nil, e)
	}
	widest, e := stale.New(api.Config{Count: 1, Bytes: 1000}, rule(1<<40, 1<<40, 1<<40, 1<<40))
	is(t, "false 0")(widest == nil, e)
	for want, c := range map[api.Errno]api.Config{240: {}, 241: {Count: 1}, 242: {Count: 1, Bytes: 1, Protected: -1}} {
		s, e := stale.New(c, good)
		is(t, fmt.Sprint(true, int(want)))(s == nil, e)
	}
	for _, s := range []*stale.Stale{nil, {}} {
		is(t, "0 [] 1")(s.Ask(0, ""))
		is(t, "false 1")(s.Drop(0, ""))
		is(t, "1 1 1 [] true true")(s.Put(0, "", nil), s.Nothing(0, ""), s.Fail(0, ""), s.Loads(), s.Cache() == nil, s.Copy() == nil)
	}
	s := store(t, 60, good)
	is(t, miss)(s.Ask(1, "a"))
	was := fmt.Sprint(s.Cache().State(), s.Loads())
	is(t, "0 [] 2")(s.Ask(9, ""))
	is(t, "false 2")(s.Drop(9, ""))
	is(t, "2 2 2 5 12 12 12")(s.Put(9, "", nil), s.Nothing(9, ""), s.Fail(9, ""), s.Put(9, "a", make([]byte, 65528)), s.Put(9, "a", make([]byte, 65527)), s.Put(9, "a", make([]byte, 3)), s.Nothing(9, "abcd"))
	is(t, "2")(s.Put(9, "", make([]byte, 70000)))
	is(t, was)(fmt.Sprint(s.Cache().State(), s.Loads()))
	is(t, "0 60")(s.Put(1, "a", make([]byte, 2)), s.Cache().Cost())
	big := store(t, 1<<20, good)
	is(t, "0")(big.Put(1, "a", make([]byte, 65527)))
	is(t, "256 9")(stale.MaxLoads, stale.Head)
}

func TestKept(t *testing.T) {
	s := store(t, 1000, rule(10, 5, 3, 4))
	_ = s.Put(5, "k", v)
	_ = s.Nothing(300, "n")
	_ = s.Put(2, "m", nil) // at 300
	x, _, _ := s.Cache().Peek(0, "n")
	is(t, "{n [0 0 0 0 0 0 0 1 47] 303 2}")(x)
	x, _, _ = s.Cache().Peek(0, "m")
	is(t, "{m [1 0 0 0 0 0 0 1 54] 315 3}")(x)
	is(t, "[] 2")(s.Cache().Drain(), s.Cache().Len())
	is(t, "true 0")(s.Drop(302, "n"))
	is(t, "false 0")(s.Drop(303, "n"))
	is(t, "1 [] 0")(s.Ask(309, "m"))
	is(t, "3 [] 0")(s.Ask(310, "m"))
	is(t, "2 [] 0")(s.Ask(313, "m"))
	is(t, "false 0")(s.Drop(313, "k"))
	is(t, "true 0")(s.Drop(313, "m"))
	is(t, "[]")(s.Cache().Drain())
	is(t, wait)(s.Ask(313, "m")) // the load goes on
	is(t, miss)(s.Ask(314, "m"))
	is(t, miss)(s.Ask(400, "z"))
	is(t, "[z] 400")(s.Loads(), s.Cache().Now())
	is(t, "0 [z]")(s.Fail(401, "y"), s.Loads())
	is(t, "0 []")(s.Fail(404, "y"), s.Loads())
	is(t, miss)(s.Ask(404, "q"))
	w := []byte("v")
	is(t, "0 []")(s.Put(405, "q", w), s.Loads())
	w[0] = 'x'
	_, got, _ := s.Ask(405, "q")
	got[0] = 'y'
	is(t, fresh)(s.Ask(1, "q"))
}

func TestEnd(t *testing.T) {
	never := api.Never
	s := store(t, 1000, rule(10, 5, 3, 4))
	is(t, "0")(s.Put(never-5, "k", v))
	is(t, fresh)(s.Ask(never-1, "k"))
	is(t, lead)(s.Ask(never, "k"))
	is(t, old)(s.Ask(never, "k"))
	is(t, "0")(s.Nothing(never, "n"))
	is(t, nothing)(s.Ask(never, "n"))
	is(t, miss)(s.Ask(never, "m"))
	is(t, wait)(s.Ask(never, "m"))
	is(t, "[k m]")(s.Loads())
}

func TestFull(t *testing.T) {
	s := store(t, 1<<20, rule(10, 5, 3, 4))
	for i := range stale.MaxLoads {
		is(t, miss)(s.Ask(1, strconv.Itoa(i)))
	}
	is(t, "0 [] 7")(s.Ask(3, "x"))
	is(t, "3 256")(s.Cache().Now(), len(s.Loads()))
	is(t, wait)(s.Ask(3, "17"))
	is(t, "0")(s.Put(4, "17", v))
	is(t, miss)(s.Ask(4, "x"))
	is(t, "0 [] 7")(s.Ask(4, "y"))
	is(t, fresh)(s.Ask(4, "17"))
	is(t, "[1 10 100]")(s.Loads()[1:4])
	is(t, miss)(s.Ask(5, "y"))
	is(t, "[x y]")(s.Loads())
}

func TestCopy(t *testing.T) {
	s := store(t, 1000, rule(10, 5, 3, 4))
	_, _, _ = s.Ask(1, "a")
	x := s.Copy()
	_ = x.Put(2, "a", v)
	_, _, _ = x.Ask(2, "b")
	_ = s.Cache().Set(9, "q", nil)
	is(t, "[a] 0 1 [b] 1 2")(s.Loads(), s.Cache().Len(), s.Cache().Now(), x.Loads(), x.Cache().Len(), x.Cache().Now())
	is(t, wait)(s.Ask(2, "a"))
	is(t, fresh)(x.Ask(2, "a"))
}
