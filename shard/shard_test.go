package shard_test

import (
	"fmt"
	"slices"
	"strconv"
	"strings"
	"testing"

	"cubbyhole/api"
	"cubbyhole/hash"
	"cubbyhole/shard"
)

func is(t *testing.T, want string) func(got ...any) {
	return func(got ...any) {
		t.Helper()
		if s := fmt.Sprint(got); s != "["+want+"]" {
			t.Errorf("got %s, want %s", s, want)
		}
	}
}

var v = []byte("v")

func shards(t *testing.T, c api.Config, points int, names ...string) *shard.Shards {
	t.Helper()
	s, e := shard.New(c, points)
	if e != api.OK {
		t.Fatal(e)
	}
	for _, name := range names {
		if n, e := s.Add(0, name); n != 0 || e != api.OK {
			t.Fatal(n, e)
		}
	}
	return s
}

var config = api.Config{Count: 100, Bytes: 100000, Seed: 1}

func TestExamples(t *testing.T) {
	s := shards(t, config, 3)
	is(t, "8")(s.Set(0, "k", v, 0))
	is(t, "0 0")(s.Add(0, "one"))
	is(t, "0 11")(s.Add(0, "one"))
	is(t, "0 8")(s.Remove(0, "one"))
	is(t, "0")(s.Set(0, "k", v, 0))
	is(t, "one 0")(s.Where("k"))
	is(t, "[118] true 0")(s.Get(1, "k"))
	is(t, "one 0")(shard.Owner([]string{"one"}, 3, 1, "any"))
	is(t, " 2")(shard.Owner(nil, 3, 1, "any"))
	is(t, " 2")(shard.Owner([]string{"1a"}, 3, 1, "any"))
	c, e := s.Cache("two")
	is(t, "[one] true 9")(s.Names(), c == nil, e)
	is(t, "0 2")(s.Add(0, "2"))
	is(t, "true 0")(s.Delete(2, "k"))
	is(t, "[] false 0")(s.Get(2, "k"))
	is(t, "false 0")(s.Delete(2, "k"))
}

func TestNames(t *testing.T) {
	long := strings.Repeat("n", 32)
	for _, s := range []string{"a", "Z", "a-", "z_9", "A0", long} {
		if !shard.ValidName(s) {
			t.Error(s)
		}
	}
	for _, s := range []string{"", "1", "-a", "_", "a b", "a#", "é", "aé", long + "n", "a.", "a/", "a:", "a@", "a[", "a`", "a{", "@", "[", "`", "{", "a\x00"} {
		if shard.ValidName(s) {
			t.Error(s)
		}
		if o, e := shard.Owner([]string{"a", s}, 3, 1, "k"); o != "" || e != api.ErrArg {
			t.Error(s, o, e)
		}
	}
}

// owner looks at all points.
func owner(names []string, points int, seed uint64, key string) string {
	h := hash.New(seed, false)
	k := h.Sum(key)
	best, least := "", ""
	var at, low uint64
	for _, n := range names {
		for i := range points {
			p := h.Sum(n + "#" + strconv.Itoa(i))
			if p >= k && (best == "" || p < at || p == at && n < best) {
				best, at = n, p
			}
			if least == "" || p < low || p == low && n < least {
				least, low = n, p
			}
		}
	}
	if best == "" {
		return least
	}
	return best
}

func TestOwner(t *testing.T) {
	names := []string{"x", "alpha", "b-1", "Gamma", "d_d"}
	for _, seed := range []uint64{0, 1, 1 << 63} {
		for _, points := range []int{1, 2, 11, 64} {
			for i := range 60 {
				key := strconv.Itoa(i * i * 7919)
				want := owner(names, points, seed, key)
				back := slices.Clone(names)
				slices.Reverse(back)
				is(t, want+" 0")(shard.Owner(names, points, seed, key))
				is(t, want+" 0")(shard.Owner(back, points, seed, key))
				if o, _ := shard.Owner(names[1:], points, seed, key); o != want && want != "x" {
					t.Error("another owner", key)
				}
			}
		}
	}
	// a key that is a point of a name has this name
	for _, n := range names {
		is(t, n+" 0")(shard.Owner(names, 1, 77, n+"#0"))
	}
	many := make([]string, 33)
	for i := range many {
		many[i] = "n" + strconv.Itoa(i)
	}
	for _, c := range []struct {
		names  []string
		points int
		key    string
	}{{names, 0, "k"}, {names, 65, "k"}, {names, -1, "k"}, {names, 3, ""}, {names, 3, strings.Repeat("k", 251)}, {append(slices.Clone(names), "x"), 3, "k"}, {many, 3, "k"}, {nil, 3, "k"}} {
		if o, e := shard.Owner(c.names, c.points, 1, c.key); o != "" || e != api.ErrArg {
			t.Error(c, o, e)
		}
	}
	_, e := shard.Owner(many[:32], 64, 1, "k")
	is(t, "0")(e)
}

func TestErrors(t *testing.T) {
	for want, c := range map[api.Errno]api.Config{240: {}, 241: {Count: 1}, 242: {Count: 1, Bytes: 1, Protected: -1}} {
		s, e := shard.New(c, 0)
		is(t, fmt.Sprint(true, int(want)))(s == nil, e)
	}
	for _, n := range []int{0, -1, 65} {
		s, e := shard.New(config, n)
		is(t, "true 2")(s == nil, e)
	}
	for _, s := range []*shard.Shards{nil, {}} {
		c, e := s.Cache("")
		is(t, "true 1 true [] 1")(c == nil, e, s.Copy() == nil, s.Names(), s.Set(0, "", nil, 0))
		is(t, "0 1")(s.Add(0, ""))
		is(t, "0 1")(s.Remove(0, ""))
		is(t, "[] false 1")(s.Get(0, ""))
		is(t, "false 1")(s.Delete(0, ""))
		is(t, " 1")(s.Where(""))
	}
	s := shards(t, api.Config{Count: 5, Bytes: 100}, 2)
	is(t, "2 8")(s.Set(0, "", nil, 0), s.Set(0, "k", make([]byte, 65537), 0))
	is(t, "[] false 2")(s.Get(0, ""))
	is(t, "[] false 8")(s.Get(0, "k"))
	is(t, "false 2")(s.Delete(0, ""))
	is(t, "false 8")(s.Delete(0, "k"))
	is(t, " 2")(s.Where(""))
	is(t, " 8")(s.Where("k"))
	is(t, "0 9")(s.Remove(0, "a"))
	_, _ = s.Add(4, "a")
	is(t, "2 5 12 0")(s.Set(9, "", make([]byte, 65537), 0), s.Set(9, "k", make([]byte, 65537), 0), s.Set(9, "k", make([]byte, 52), 3), s.Set(4, "k", make([]byte, 51), 3))
	is(t, "0 2")(s.Remove(9, "1"))
	is(t, "0 9")(s.Remove(9, "b"))
	is(t, "0 8")(s.Remove(9, "a"))
	is(t, "0 2")(s.Add(9, ""))
	c, e := s.Cache("1")
	is(t, "true 2")(c == nil, e)
	c, _ = s.Cache("a")
	is(t, "4 7")(c.Now(), c.Next())
	for i := range 31 {
		_, _ = s.Add(4, "n"+strconv.Itoa(i))
	}
	is(t, "0 7")(s.Add(9, "z"))
	is(t, "0 11")(s.Add(9, "a"))
	is(t, "32 [a n0 n1 n10]")(len(s.Names()), s.Names()[:4])
	c, _ = s.Cache("n3")
	is(t, "4")(c.Now())
}

// The last bytes of a string change little of its hash: these differ in their first ones.
const nameA, nameB, nameC, nameD = "a-shard-number", "b-shard-number", "c-shard-number", "d-shard-number"

func longKey(i int) string { return strconv.Itoa(i) + "-is-the-key-number" }

func TestTimes(t *testing.T) {
	s := shards(t, config, 8, nameA, nameB)
	for i := range 20 {
		_ = s.Set(3, longKey(i), v, api.Time(i%3)*5)
	}
	before := 0
	for _, n := range s.Names() {
		c, _ := s.Cache(n)
		before += c.Len()
	}
	is(t, "20")(before)
	n, e := s.Add(8, nameC) // what has a deadline of 8 is not there any more
	c, _ := s.Cache(nameC)
	is(t, fmt.Sprint(c.Len(), 0, 8))(n, e, c.Now())
	all := 0
	for _, n := range s.Names() {
		c, _ := s.Cache(n)
		all += c.Len()
		for _, x := range c.Entries() {
			i, _ := strconv.Atoi(strings.TrimSuffix(x.Key, longKey(0)[1:]))
			want := api.Never
			if i%3 > 0 {
				want = 3 + api.Time(i%3)*5
			}
			if o, _ := s.Where(x.Key); o != n || x.Deadline != want || i%3 == 1 {
				t.Error(n, x)
			}
		}
	}
	is(t, "13")(all)
	a, _ := s.Cache(nameA)
	n, e = s.Remove(2, nameA)
	is(t, fmt.Sprint(a.Len(), 0, s.Names()))(n, e, []string{nameB, nameC})
	for i := range 20 {
		_, there, _ := s.Get(12, longKey(i))
		is(t, fmt.Sprint(i%3 != 1))(there)
	}
	_, there, _ := s.Get(13, longKey(2))
	is(t, "false")(there)
	x := s.Copy()
	_ = x.Set(99, "q", v, 0)
	_, _ = x.Remove(99, nameB)
	_, _ = x.Add(99, nameD)
	c, _ = s.Cache(nameB)
	is(t, fmt.Sprint([]string{nameB, nameC}, []string{nameC, nameD}, 13))(s.Names(), x.Names(), c.Now())
	_ = c.Set(99, "w", v)
	_, there, _ = s.Get(13, "w")
	is(t, "false")(there)
}

// TestEvents looks at the events of a call, which the next one drains.
func TestEvents(t *testing.T) {
	s := shards(t, api.Config{Count: 1, Bytes: 100000, Seed: 1}, 3, "a")
	_ = s.Set(1, "x", v, 0)
	_ = s.Set(1, "y", v, 0)
	c, _ := s.Cache("a")
	is(t, "1")(len(c.Drain()))
	_, _, _ = s.Get(1, "y")
	c, _ = s.Cache("a")
	is(t, "0 1")(len(c.Drain()), c.Len())
}

// TestMove moves the entries in the order of the names, and then of their births.
func TestMove(t *testing.T) {
	s := shards(t, config, 16, nameB, nameA)
	var keys []string
	for i := range 80 {
		keys = append(keys, longKey(i))
		_ = s.Set(0, longKey(i), v, 0)
	}
	var want []string
	for _, n := range []string{nameA, nameB} {
		for _, key := range keys {
			if owner([]string{nameA, nameB}, 16, 1, key) == n && owner([]string{nameA, nameB, nameC}, 16, 1, key) == nameC {
				want = append(want, key)
			}
		}
	}
	n, _ := s.Add(0, nameC)
	c, _ := s.Cache(nameC)
	var got []string
	for _, x := range c.Entries() {
		got = append(got, x.Key)
	}
	if !slices.Equal(got, want) || n != len(want) || n == 0 || slices.IsSorted(want) {
		t.Error(n, got, want)
	}
	m, _ := s.Remove(0, nameB)
	l, _ := s.Remove(0, nameA)
	is(t, "true "+nameC)(m > 0 && l > 0, strings.Join(s.Names(), " "))
	c, _ = s.Cache(nameC)
	is(t, "80")(c.Len())
}

func TestTimeOfNew(t *testing.T) {
	s := shards(t, config, 3, nameA)
	_ = s.Set(5, "k", v, 0)
	_, _ = s.Add(9, nameB)
	a, _ := s.Cache(nameA)
	b, _ := s.Cache(nameB)
	_, _ = s.Add(2, nameC)
	c, _ := s.Cache(nameC)
	is(t, "9 9 9")(a.Now(), b.Now(), c.Now())
}
