package tier_test

import (
	"bytes"
	"fmt"
	"strconv"
	"strings"
	"testing"

	"cubbyhole/api"
	"cubbyhole/cache"
	"cubbyhole/event"
	"cubbyhole/tier"
)

func is(t *testing.T, want string) func(got ...any) {
	return func(got ...any) {
		t.Helper()
		if s := fmt.Sprint(got); s != "["+want+"]" {
			t.Errorf("got %s, want %s", s, want)
		}
	}
}

func of(count, bytes int) api.Config { return api.Config{Count: count, Bytes: bytes} }

func tiers(t *testing.T, first, second api.Config, exclusive, demote bool) *tier.Tiers {
	t.Helper()
	s, e := tier.New(first, second, api.TierRule{Exclusive: exclusive, Demote: demote})
	if e != api.OK {
		t.Fatal(e)
	}
	return s
}

func keys(s *tier.Tiers) string {
	a, b := s.Caches()
	l := ""
	for _, c := range []*cache.Cache{a, b} {
		for _, x := range c.Entries() {
			l += x.Key
		}
		l += "|" + strconv.Itoa(int(c.Now())) + " "
	}
	return l
}

func drained(s *tier.Tiers) string {
	l, _ := event.Write(s.Drain())
	return strings.ReplaceAll(strings.TrimSuffix(l, "\n"), "\n", "; ")
}

var a, b = []byte("A"), []byte("B")

func TestExamples(t *testing.T) {
	s := tiers(t, of(1, 1000), of(2, 1000), true, true)
	is(t, "0 0")(s.Set(0, "a", a, 0), s.Set(1, "b", b, 0))
	is(t, "[65] 2 0")(s.Get(2, "a"))
	is(t, "[66] 2 0")(s.Get(2, "b"))
	is(t, "[] 0 0")(s.Get(2, "c"))
	is(t, "1 0")(s.Delete(3, "b"))
	is(t, "2 0")(s.Delete(3, "a"))
	is(t, "[] 0 0")(s.Get(3, "a"))
	is(t, "1 evicted 1 never 61 41; 2 evicted 2 never 62 42; 2 deleted 1 never 61 41; 2 evicted 3 never 61 41; 2 deleted 2 never 62 42; 3 deleted 4 never 62 42; 3 deleted 3 never 61 41")(drained(s))
	n := tiers(t, of(1, 1000), of(2, 1000), false, false)
	is(t, "0 0")(n.Set(0, "a", a, 5), n.Set(1, "b", b, 0))
	is(t, "[65] 2 0")(n.Get(2, "a"))
	is(t, "[65] 1 0")(n.Get(4, "a"))
	is(t, "[] 0 0")(n.Get(5, "a"))
	is(t, "0 0")(n.Delete(5, "a"))
}

func TestErrors(t *testing.T) {
	for i, c := range [][2]api.Config{{of(0, 1), of(1, 0)}, {of(1, 1), of(1, 0)}, {of(1, 0), of(0, 1)}} {
		s, e := tier.New(c[0], c[1], api.TierRule{})
		is(t, fmt.Sprint(true, []int{240, 241, 241}[i]))(s == nil, e)
	}
	for _, s := range []*tier.Tiers{nil, {}} {
		x, y := s.Caches()
		is(t, "[] 0 1")(s.Get(0, ""))
		is(t, "0 1")(s.Delete(0, ""))
		is(t, "1 1 [] true true true")(s.Set(0, "", make([]byte, 70000), 0), s.Advance(0), s.Drain(), x == nil, y == nil, s.Copy() == nil)
	}
	s := tiers(t, of(3, 100), of(3, 200), false, true)
	_ = s.Set(1, "a", a, 0)
	is(t, "2 5 2")(s.Set(9, "", nil, 0), s.Set(9, "k", make([]byte, 65537), 0), s.Set(9, strings.Repeat("k", 251), make([]byte, 65537), 0))
	is(t, "[] 0 2")(s.Get(9, ""))
	is(t, "0 2")(s.Delete(9, ""))
	is(t, "a|1 a|1 ")(keys(s))
	is(t, "12")(s.Set(9, "a", make([]byte, 152), 7))
	is(t, "|9 |9 ")(keys(s))
	is(t, "9 deleted 1 never 61 41; 9 deleted 1 never 61 41")(drained(s))
	is(t, "0")(s.Set(9, "a", make([]byte, 151), 7)) // in the second cache alone
	_, b := s.Caches()
	is(t, "|9 a|9  16")(keys(s), b.Next())
	is(t, "[] 2 0")(func() (any, any, any) { v, f, e := s.Get(9, "a"); return v[:0], f, e }())
	is(t, "|9 a|9 ")(keys(s))
	is(t, "0")(s.Set(9, "a", make([]byte, 3), 0))
	is(t, "0 |9 a|9 ")(s.Set(10, "a", make([]byte, 100), 0), strings.ReplaceAll(keys(s), "10", "9"))
}

func TestSecondTooSmall(t *testing.T) {
	s := tiers(t, of(3, 200), of(3, 100), false, false)
	is(t, "0")(s.Set(1, "a", a, 0))
	is(t, "0")(s.Set(1, "a", make([]byte, 80), 0))
	is(t, "a|1 |1 ")(keys(s))
	x := tiers(t, of(1, 200), of(3, 100), true, true)
	is(t, "0 0")(x.Set(1, "a", make([]byte, 80), 0), x.Set(1, "b", nil, 0))
	is(t, "b|1 |1 ")(keys(x))
	y := tiers(t, of(5, 60), of(5, 200), true, false) // what is too big for the first cache stays in the second one
	is(t, "0")(y.Set(1, "a", make([]byte, 80), 0))
	_ = y.Set(1, "b", nil, 0)
	v, f, _ := y.Get(1, "a")
	is(t, "80 2 b|1 a|1 ")(len(v), f, keys(y))
}

func TestDemoteDeadline(t *testing.T) {
	s := tiers(t, of(1, 1000), of(5, 1000), true, true)
	_ = s.Set(1, "a", a, 9)
	_ = s.Set(4, "b", b, 0)
	_, x := s.Caches()
	is(t, "b|4 a|4  10")(keys(s), x.Next())
	is(t, "[65] 2 0")(s.Get(6, "a"))
	y, _ := s.Caches()
	is(t, "a|6 b|6  10")(keys(s), y.Next())
	is(t, "0")(s.Advance(10))
	is(t, "|10 b|10 ")(keys(s))
	is(t, "0")(s.Advance(3))
	is(t, "4 evicted 1 10 61 41; 6 evicted 2 never 62 42; 6 deleted 1 10 61 41; 10 expired 3 10 61 41")(drained(s))
	is(t, "[] |10 b|10 ")(s.Drain(), keys(s))
}

func TestCopy(t *testing.T) {
	s := tiers(t, of(1, 1000), of(5, 1000), true, true)
	v := []byte("A")
	_ = s.Set(1, "a", v, 0)
	v[0] = 'x'
	_ = s.Set(1, "b", nil, 0)
	x := s.Copy()
	_ = x.Set(2, "c", nil, 0)
	l := x.Drain()
	l[0].Value[0] = 'y'
	f, g := s.Caches()
	_, _ = f.Clear(9)
	_, _ = g.Clear(9)
	is(t, "b|1 a|1  c|2 ab|2 ")(keys(s), keys(x))
	is(t, "1 evicted 1 never 61 41")(drained(s))
}

// TestModel keeps what was set last, without any budget that is exceeded.
func TestModel(t *testing.T) {
	r := uint32(9)
	for round := range 4 {
		exclusive, demote := round%2 == 1, round >= 1
		s := tiers(t, of(3, 300), of(1000, 1<<20), exclusive, demote)
		type known struct {
			v []byte
			d api.Time
		}
		m := map[string]known{}
		now := api.Time(0)
		for step := range 2000 {
			r = r*1664525 + 1013904223
			key := strconv.Itoa(int(r >> 28))
			now += api.Time(r >> 8 & 1)
			for k, x := range m {
				if x.d <= now {
					delete(m, k)
				}
			}
			switch r >> 20 % 5 {
			case 0, 1:
				value := bytes.Repeat([]byte{byte(step)}, int(r>>12%200))
				ttl := api.Time(r >> 10 & 31)
				is(t, "0")(s.Set(now, key, value, ttl))
				m[key] = known{value, api.Never}
				if ttl > 0 {
					m[key] = known{value, now + ttl}
				}
			case 2:
				f, e := s.Delete(now, key)
				if _, ok := m[key]; ok != (f != api.TierNone) || e != api.OK {
					t.Fatal(round, step, f, e)
				}
				delete(m, key)
			default:
				v, f, e := s.Get(now, key)
				x, ok := m[key]
				if ok != (f != api.TierNone) || e != api.OK || !bytes.Equal(v, x.v) {
					t.Fatal(round, step, f, e)
				}
			}
			a, b := s.Caches()
			if exclusive {
				for _, x := range a.Entries() {
					if _, there, _ := b.Peek(now, x.Key); there {
						t.Fatal(round, step, "in both", x.Key)
					}
				}
			}
			if a.Now() != now || b.Now() != now || len(a.Drain())+len(b.Drain()) > 0 {
				t.Fatal(round, step, a.Now(), b.Now())
			}
		}
	}
}

// TestUse looks at what is used in the second cache by a key that is found there.
func TestUse(t *testing.T) {
	for _, exclusive := range []bool{false, true} {
		s := tiers(t, of(1, 60), of(9, 1000), exclusive, false)
		for _, k := range []string{"x", "y", "z"} { // too big for the first cache
			_ = s.Set(1, k, make([]byte, 40), 0)
		}
		_, _, _ = s.Get(1, "x")
		_, b := s.Caches()
		is(t, "[2 3 1]")(b.Order(api.Probation))
	}
	s := tiers(t, of(1, 1000), of(9, 1000), false, false)
	for _, k := range []string{"x", "y", "z"} {
		_ = s.Set(1, k, nil, 0)
	}
	_, _, _ = s.Get(1, "x")
	_, _, _ = s.Get(1, "x") // in the first cache now
	_, _, _ = s.Get(1, "y")
	_, b := s.Caches()
	is(t, "[3 1 2]")(b.Order(api.Probation))
}
