package cache_test

import (
	"bytes"
	"fmt"
	"strconv"
	"strings"
	"testing"

	"cubbyhole/api"
	"cubbyhole/cache"
	"cubbyhole/event"
	"cubbyhole/growth"
)

func is(t *testing.T, want string) func(got ...any) {
	return func(got ...any) {
		t.Helper()
		if s := fmt.Sprint(got); s != "["+want+"]" {
			t.Errorf("got %s, want %s", s, want)
		}
	}
}

const never = api.Never

func of(count, bytes, protected int) api.Config {
	return api.Config{Count: count, Bytes: bytes, Protected: protected}
}

func cacheOf(t *testing.T, c api.Config) *cache.Cache {
	t.Helper()
	x, e := cache.New(c)
	if e != api.OK {
		t.Fatal(e)
	}
	return x
}

// drained returns the lines of all events.
func drained(c *cache.Cache) string {
	s, _ := event.Write(c.Drain())
	return strings.ReplaceAll(strings.TrimSuffix(s, "\n"), "\n", "; ")
}

func TestExamples(t *testing.T) {
	c := cacheOf(t, of(2, 1000, 50))
	is(t, "0 0")(c.SetTTL(5, "a", []byte("x"), 10), c.Set(5, "b", []byte("y")))
	is(t, "[120] true 0")(c.Get(6, "a"))
	is(t, "0 7 evicted 2 never 62 79")(c.Set(7, "c", []byte("z")), drained(c))
	is(t, "[3] [1]")(c.Order(api.Probation), c.Order(api.Protected))
	is(t, "[] false 0")(c.Get(7, "b"))
	is(t, "{a [120] 15 1} true 0")(c.Peek(3, "a"))
	is(t, "7 0")(c.Now(), c.Set(8, "a", []byte("w")))
	is(t, "true 0")(c.Touch(9, "c", 6))
	is(t, "8 replaced 1 15 61 78 15 0 2 0")(drained(c), c.Next(), c.Advance(14), c.Len(), c.Advance(15))
	is(t, "15 expired 3 15 63 7a")(drained(c))
	is(t, "true 0")(c.Delete(15, "a"))
	is(t, "false 0")(c.Delete(15, "a"))
	is(t, "3")(c.Births())
	is(t, "0 0")(c.Clear(20))
	is(t, "15 deleted 1 never 61 77 12 20 240")(drained(c), c.Set(21, "k", make([]byte, 1000)), c.Now(), c.Resize(21, 0, 5))
	is(t, "{ [] 0 0} false 0")(c.After(21, 0))
	is(t, "2 2 21")(c.SetTTL(21, "k", []byte("x"), 0), c.Set(21, "", []byte("x")), c.Now())
}

func TestNil(t *testing.T) {
	for _, c := range []*cache.Cache{nil, {}} {
		is(t, "1 1 1 1 1")(c.Set(1, "", nil), c.SetTTL(1, "", nil, 0), c.Resize(1, 0, 0), c.Compact(1), c.Advance(1))
		is(t, "[] false 1")(c.Get(1, ""))
		is(t, "{ [] 0 0} false 1")(c.Peek(1, ""))
		is(t, "false 1")(c.Touch(1, "", 0))
		is(t, "false 1")(c.Delete(1, ""))
		is(t, "0 1")(c.Clear(1))
		is(t, "{ [] 0 0} false 1")(c.After(1, 0))
		is(t, "[] 0 0 0 18446744073709551615 0 {0 0 0 0 false} [] [] true")(c.Drain(), c.Len(), c.Cost(), c.Now(), c.Next(), c.Births(), c.Config(), c.Entries(), c.Order(0), c.Copy() == nil)
		is(t, "0 0")(c.Memory())
		is(t, "{{0 0 0 0 false} 0 0 [] [] [] []}")(c.State())
	}
	for want, x := range map[api.Errno]api.Config{240: of(0, 0, 100), 241: of(1, 0, 100), 242: of(1, 1, 100)} {
		if c, e := cache.New(x); c != nil || e != want {
			t.Error(e)
		}
	}
}

func TestErrors(t *testing.T) {
	c := cacheOf(t, of(3, 100000, 50))
	_ = c.SetTTL(3, "a", nil, 5)
	was := fmt.Sprint(c.State())
	long, longKey := make([]byte, 65537), strings.Repeat("k", 251)
	is(t, "2 2 2 2 5 5 2")(c.Set(9, "", long), c.Set(9, longKey, nil), c.SetTTL(9, "k", long, 0), c.SetTTL(9, "", nil, 1), c.Set(9, "k", long), c.SetTTL(9, "k", long, 1), c.SetTTL(9, "k", nil, 0))
	is(t, "[] false 2")(c.Get(9, ""))
	is(t, "{ [] 0 0} false 2")(c.Peek(9, longKey))
	is(t, "false 2")(c.Touch(9, "a", 0))
	is(t, "false 2")(c.Touch(9, "", 1))
	is(t, "false 2")(c.Delete(9, ""))
	is(t, "240 241 240")(c.Resize(9, 0, 0), c.Resize(9, 1, 0), c.Resize(9, 1<<20+1, 1))
	if s := fmt.Sprint(c.State()); s != was {
		t.Error(s)
	}
	d := cacheOf(t, of(3, 50, 0))
	is(t, "0 12 12 0 5")(d.Set(1, "a", []byte("1")), d.Set(5, "a", []byte("12")), d.SetTTL(5, "ab", []byte("1"), 1), d.Set(2, "ab", nil), d.Set(9, "a", long))
	is(t, "2 1 2 evicted 1 never 61 31 50")(d.Now(), d.Len(), drained(d), d.Cost())
	is(t, "0 12")(d.Resize(2, 3, 49), d.Set(2, "a", []byte("1")))
	is(t, "0")(d.Len())
}

func TestBirthsFull(t *testing.T) {
	s := api.CacheState{Config: of(5, 1000, 0), Now: 3, Births: 1<<64 - 1, Entries: []api.Entry{{Key: "a", Deadline: 9, Birth: 1<<64 - 1}}, Probation: []uint64{1<<64 - 1}}
	c, e := cache.Restore(s)
	is(t, "0 7 7 0 7 7 7 3 12")(e, c.Set(8, "b", nil), c.SetTTL(8, "b", nil, 1), c.SetTTL(3, "a", nil, 6), c.Set(9, "a", nil), c.SetTTL(never, "a", nil, 1), c.Set(99, "z", nil), c.Now(), c.Set(99, "z", make([]byte, 1000)))
	is(t, "0 0 2")(c.Set(8, "a", nil), c.Set(99, "a", nil), c.Set(99, "", nil))
	s.Births--
	s.Entries[0].Birth--
	s.Probation[0]--
	c, _ = cache.Restore(s)
	is(t, "0 7 1 18446744073709551615")(c.Set(9, "b", nil), c.Set(9, "c", nil), c.Order(0)[0]%7, c.Births())
}

func TestEventsFull(t *testing.T) {
	c := cacheOf(t, of(3, 1000, 0))
	_ = c.Set(1, "a", nil)
	for range event.MaxEvents - 1 {
		if e := c.Set(1, "a", nil); e != api.OK {
			t.Fatal(e)
		}
	}
	is(t, "0 7 7 7 7 2 12")(c.Set(2, "b", nil), c.Set(3, "a", nil), c.Resize(3, 2, 100), c.Compact(3), c.Advance(3), c.Set(3, "", nil), c.Set(3, "a", make([]byte, 1000)))
	is(t, "[] false 7")(c.Get(3, "a"))
	is(t, "{ [] 0 0} false 7")(c.Peek(3, "a"))
	is(t, "false 7")(c.Touch(3, "a", 1))
	is(t, "false 7")(c.Delete(3, "x"))
	is(t, "0 7")(c.Clear(3))
	is(t, "{ [] 0 0} false 7")(c.After(3, 0))
	is(t, "2 2 240 1048575")(c.Now(), c.Len(), c.Resize(3, 0, 1), len(c.Drain()))
	is(t, "0 3")(c.Advance(3), c.Now())
}

func TestValues(t *testing.T) {
	c := cacheOf(t, of(3, 1000, 50))
	v := []byte("xy")
	_ = c.Set(1, "a", v)
	v[0] = 'z'
	g, _, _ := c.Get(1, "a")
	g[0] = 'z'
	p, _, _ := c.Peek(1, "a")
	p.Value[0] = 'z'
	f, _, _ := c.After(1, 0)
	f.Value[0] = 'z'
	c.Entries()[0].Value[0] = 'z'
	s := c.State()
	s.Entries[0].Value[0] = 'z'
	s.Protected[0] = 9
	is(t, "[120 121] true 0")(c.Get(1, "a"))
	x := c.Copy()
	_ = x.Set(2, "a", nil)
	_ = x.Set(2, "b", nil)
	x.State().Events[0].Value[0] = 'z'
	is(t, "[] 1 [1] 2 replaced 1 never 61 7879 2 1 2")(c.Drain(), c.Len(), c.Order(api.Protected), drained(x), x.Len(), c.Now(), x.Now())
	s = c.State()
	s.Probation, s.Events = nil, []api.Event{{Kind: api.Deleted, Key: "q", Value: []byte("v"), Birth: 1, Deadline: never, At: 1}}
	y, e := cache.Restore(s)
	is(t, "0 51")(e, c.Cost())
	s.Entries[0].Value[0], s.Events[0].Value[0] = '!', '!'
	is(t, "[120 121] true 0")(y.Get(1, "a"))
	is(t, "1 deleted 1 never 71 76")(drained(y))
}

// good is a valid state.
func good() api.CacheState {
	e := func(key string, d api.Time, b uint64) api.Entry {
		return api.Entry{Key: key, Value: []byte("1"), Deadline: d, Birth: b}
	}
	v := func(k api.EventKind, b uint64, d, at api.Time) api.Event {
		return api.Event{Kind: k, Key: "v", Value: []byte("2"), Birth: b, Deadline: d, At: at}
	}
	return api.CacheState{
		Config: of(4, 200, 50), Now: 10, Births: 9, Entries: []api.Entry{e("a", never, 2), e("b", 11, 4), e("c", 20, 5), e("d", never, 9)},
		Probation: []uint64{9, 4}, Protected: []uint64{5, 2}, Events: []api.Event{v(api.Expired, 1, 3, 3), v(api.Deleted, 9, never, 3), v(api.Evicted, 3, 12, 10)},
	}
}

func TestValidRestore(t *testing.T) {
	c, e := cache.Restore(good())
	if e != api.OK || !cache.Valid(good()) || fmt.Sprint(c.State()) != fmt.Sprint(good()) {
		t.Fatal(e)
	}
	is(t, "4 200 10 11 9 [9 4] [5 2] []")(c.Len(), c.Cost(), c.Now(), c.Next(), c.Births(), c.Order(0), c.Order(1), c.Order(2))
	is(t, "0 3 expired 1 3 76 32; 3 deleted 9 never 76 32; 10 evicted 3 12 76 32; 10 evicted 9 never 64 31")(c.Set(10, "e", nil), drained(c))
	is(t, "[4 10] 0")(c.Order(0), c.Set(10, "f", []byte("12")))
	is(t, "[10 11] 10 evicted 4 11 62 31")(c.Order(0), drained(c))
	for i, f := range []func(s *api.CacheState){
		func(s *api.CacheState) { s.Config.Count = 3 }, func(s *api.CacheState) { s.Config.Bytes = 199 }, func(s *api.CacheState) { s.Config.Protected = 49 }, func(s *api.CacheState) { s.Config.Protected = 0 },
		func(s *api.CacheState) { s.Config.Protected = 100 }, func(s *api.CacheState) { s.Config.Count = 0 }, func(s *api.CacheState) { s.Now = 11 }, func(s *api.CacheState) { s.Now = 9 }, func(s *api.CacheState) { s.Now = never },
		func(s *api.CacheState) { s.Births = 8 }, func(s *api.CacheState) { s.Entries[1].Key = "a" }, func(s *api.CacheState) { s.Entries[1].Key = "" }, func(s *api.CacheState) { s.Entries[0].Birth = 0 },
		func(s *api.CacheState) { s.Entries[1].Birth = 2 }, func(s *api.CacheState) { s.Entries[1].Birth, s.Probation = 2, []uint64{9} }, func(s *api.CacheState) { s.Entries[0], s.Entries[1] = s.Entries[1], s.Entries[0] }, func(s *api.CacheState) { s.Entries[2].Deadline = 10 }, func(s *api.CacheState) { s.Entries = s.Entries[1:] },
		func(s *api.CacheState) { s.Probation = s.Probation[1:] }, func(s *api.CacheState) { s.Probation = append(s.Probation, 4) }, func(s *api.CacheState) { s.Probation = append(s.Probation, 5) }, func(s *api.CacheState) { s.Probation = append(s.Probation, 3) },
		func(s *api.CacheState) { s.Protected = append(s.Protected, 4) }, func(s *api.CacheState) { s.Protected = s.Protected[1:] }, func(s *api.CacheState) { s.Protected = []uint64{5, 5} }, func(s *api.CacheState) { s.Protected[0] = 77 },
		func(s *api.CacheState) { s.Probation, s.Protected = []uint64{9}, []uint64{4, 5, 2} }, func(s *api.CacheState) { s.Events[0].Key = "" }, func(s *api.CacheState) { s.Events[0].At = 4 }, func(s *api.CacheState) { s.Events[2].At = 11 },
		func(s *api.CacheState) { s.Events[1].Birth = 10 }, func(s *api.CacheState) { s.Events[1].Kind = 0 }, func(s *api.CacheState) { s.Events[1].At = 2 },
		func(s *api.CacheState) {
			s.Events = make([]api.Event, event.MaxEvents+1)
			for i := range s.Events {
				s.Events[i] = good().Events[0]
			}
		},
		func(s *api.CacheState) { s.Entries[0].Value = make([]byte, 65537); s.Config.Bytes = 1 << 30 },
	} {
		s := good()
		f(&s)
		c, e := cache.Restore(s)
		if cache.Valid(s) || c != nil || e != api.ErrArg {
			t.Error(i, e)
		}
	}
	for i, f := range []func(s *api.CacheState){
		func(s *api.CacheState) {
			s.Config.Protected = 99
			s.Probation, s.Protected = nil, []uint64{4, 9, 5}
			s.Entries = s.Entries[1:]
		},
		func(s *api.CacheState) { s.Config.Protected = 0; s.Probation, s.Protected = []uint64{5, 9, 4, 2}, nil }, func(s *api.CacheState) { s.Events = nil }, func(s *api.CacheState) { *s = api.CacheState{Config: of(1, 1, 0)} },
		func(s *api.CacheState) { *s = api.CacheState{Config: of(1, 1, 0), Now: never, Births: 1<<64 - 1} }, func(s *api.CacheState) { s.Births = 1<<64 - 1 },
	} {
		s := good()
		f(&s)
		c, e := cache.Restore(s)
		if !cache.Valid(s) || e != api.OK || fmt.Sprint(c.State()) != fmt.Sprint(s) {
			t.Error(i, e)
		}
	}
}

// model is a cache that is as simple as it can be: both segments are lists from the oldest to the newest entry.
type model struct {
	c      api.Config
	now    api.Time
	births uint64
	seg    [2][]api.Entry
	events []api.Event
}

func cost(x api.Entry) int { return 48 + len(x.Key) + len(x.Value) }

func (m *model) each(f func(g, i int, x api.Entry)) {
	for g, l := range m.seg {
		for i, x := range l {
			f(g, i, x)
		}
	}
}

func (m *model) sum() (n, c, protected int) {
	m.each(func(g, _ int, x api.Entry) { n++; c += cost(x); protected += g * cost(x) })
	return
}

func (m *model) find(ok func(api.Entry) bool) (g, i int) {
	g = -1
	m.each(func(h, j int, x api.Entry) {
		if g < 0 && ok(x) {
			g, i = h, j
		}
	})
	return
}

func (m *model) byKey(key string) (g, i int) {
	return m.find(func(x api.Entry) bool { return x.Key == key })
}

func (m *model) cut(g, i int) api.Entry {
	x := m.seg[g][i]
	m.seg[g] = append(append([]api.Entry{}, m.seg[g][:i]...), m.seg[g][i+1:]...)
	return x
}

func (m *model) tell(k api.EventKind, x api.Entry) {
	m.events = append(m.events, api.Event{Kind: k, Key: x.Key, Value: x.Value, Birth: x.Birth, Deadline: x.Deadline, At: m.now})
}

func (m *model) expire(t api.Time) {
	m.now = max(m.now, t)
	for {
		first := api.Entry{Deadline: never}
		m.each(func(_, _ int, x api.Entry) {
			if x.Deadline < first.Deadline || x.Deadline == first.Deadline && x.Birth < first.Birth {
				first = x
			}
		})
		if first.Deadline > m.now || first.Deadline == never {
			return
		}
		g, i := m.byKey(first.Key)
		m.tell(api.Expired, m.cut(g, i))
	}
}

func (m *model) demote() {
	for {
		_, _, p := m.sum()
		if p <= m.c.Bytes*m.c.Protected/100 {
			return
		}
		m.seg[0] = append(m.seg[0], m.cut(1, 0))
	}
}

func (m *model) use(g, i int, f func(x *api.Entry)) {
	x := m.cut(g, i)
	f(&x)
	to := 1
	if m.c.Protected == 0 {
		to = 0
	}
	m.seg[to] = append(m.seg[to], x)
	m.demote()
}

func (m *model) evict(keep string) {
	for {
		n, c, _ := m.sum()
		if n <= m.c.Count && c <= m.c.Bytes {
			return
		}
		g, i := m.find(func(x api.Entry) bool { return x.Key != keep })
		m.tell(api.Evicted, m.cut(g, i))
	}
}

func (m *model) set(t api.Time, key string, value []byte, ttl api.Time) {
	m.expire(t)
	deadline := never
	if ttl < never-m.now {
		deadline = m.now + ttl
	}
	if g, i := m.byKey(key); g >= 0 {
		m.tell(api.Replaced, m.seg[g][i])
		m.use(g, i, func(x *api.Entry) { x.Value, x.Deadline = value, deadline })
	} else {
		m.births++
		m.seg[0] = append(m.seg[0], api.Entry{Key: key, Value: value, Deadline: deadline, Birth: m.births})
	}
	m.evict(key)
}

func (m *model) entries() []api.Entry {
	l := []api.Entry{}
	at := uint64(0)
	for {
		next := api.Entry{}
		m.each(func(_, _ int, x api.Entry) {
			if x.Birth > at && (next.Birth == 0 || x.Birth < next.Birth) {
				next = x
			}
		})
		if next.Birth == 0 {
			return l
		}
		l = append(l, next)
		at = next.Birth
	}
}

func (m *model) state() string {
	var b [2][]uint64
	m.each(func(g, _ int, x api.Entry) { b[g] = append(b[g], x.Birth) })
	return fmt.Sprint(api.CacheState{Config: m.c, Now: m.now, Births: m.births, Entries: m.entries(), Probation: b[0], Protected: b[1], Events: m.events})
}

// step makes the same operation with the model and with a cache.
func step(t *testing.T, m *model, c *cache.Cache, next func(n uint64) uint64) {
	at := m.now + api.Time(next(4))
	if next(20) == 0 {
		at = api.Time(next(50)) // perhaps in the past
	}
	key := strconv.Itoa(int(next(12)))
	value := bytes.Repeat([]byte{'v'}, int(next(30)))
	ttl := api.Time(next(30) + 1)
	if next(10) == 0 {
		ttl = never - api.Time(next(100))
	}
	g, i := -1, 0
	begin := func() {
		m.expire(at)
		g, i = m.byKey(key)
	}
	hit := func() bool { return g >= 0 }
	switch op := next(24); {
	case op < 6:
		if c.Config().Bytes < 48+len(key)+len(value) {
			is(t, "12")(c.Set(at, key, value))
			break
		}
		m.set(at, key, value, never)
		is(t, "0")(c.Set(at, key, value))
	case op < 11:
		if c.Config().Bytes < 48+len(key)+len(value) {
			is(t, "12")(c.SetTTL(at, key, value, ttl))
			break
		}
		m.set(at, key, value, ttl)
		is(t, "0")(c.SetTTL(at, key, value, ttl))
	case op < 15:
		begin()
		var want []byte
		if hit() {
			want = m.seg[g][i].Value
			m.use(g, i, func(*api.Entry) {})
		}
		is(t, fmt.Sprint(want, hit(), " 0"))(c.Get(at, key))
	case op < 16:
		begin()
		var want api.Entry
		if hit() {
			want = m.seg[g][i]
		}
		is(t, fmt.Sprint(want, hit(), " 0"))(c.Peek(at, key))
	case op < 18:
		begin()
		if hit() {
			m.use(g, i, func(x *api.Entry) {
				x.Deadline = never
				if ttl < never-m.now {
					x.Deadline = m.now + ttl
				}
			})
		}
		is(t, fmt.Sprint(hit(), " 0"))(c.Touch(at, key, ttl))
	case op < 19:
		begin()
		if hit() {
			m.tell(api.Deleted, m.cut(g, i))
		}
		is(t, fmt.Sprint(hit(), " 0"))(c.Delete(at, key))
	case op < 20 && next(6) == 0:
		m.expire(at)
		l := m.entries()
		for _, x := range l {
			m.tell(api.Cleared, x)
		}
		m.seg = [2][]api.Entry{}
		is(t, fmt.Sprint(len(l), " 0"))(c.Clear(at))
	case op < 21:
		m.expire(at)
		m.c.Count, m.c.Bytes = int(next(10)+1), int(next(700)+40)
		m.demote()
		m.evict("")
		is(t, "0")(c.Resize(at, m.c.Count, m.c.Bytes))
	case op < 22:
		m.expire(at)
		is(t, "0")(c.Compact(at))
	case op < 23:
		m.expire(at)
		is(t, "0")(c.Advance(at))
	default:
		m.expire(at)
		birth := next(m.births + 2)
		var want api.Entry
		for _, x := range m.entries() {
			if want.Birth == 0 && x.Birth > birth {
				want = x
			}
		}
		is(t, fmt.Sprint(want, want.Birth > 0, " 0"))(c.After(at, birth))
	}
}

func TestModel(t *testing.T) {
	for round, x := range []api.Config{of(5, 1000, 50), of(5, 400, 80), of(8, 300, 0), of(1, 80, 99), of(100, 500, 1), {Count: 6, Bytes: 450, Protected: 30, Seed: 77}, {Count: 6, Bytes: 450, Protected: 60, Same: true}} {
		r := uint64(round)
		next := func(n uint64) uint64 { r = r*6364136223846793005 + 1442695040888963407; return r >> 33 % n }
		c := cacheOf(t, x)
		m := &model{c: x}
		for n := range 3000 {
			step(t, m, c, next)
			if got, want := fmt.Sprint(c.State()), m.state(); got != want {
				t.Fatalf("%d %d\n%s\n%s", round, n, got, want)
			}
			first := never
			m.each(func(_, _ int, x api.Entry) { first = min(first, x.Deadline) })
			count, cost, _ := m.sum()
			log, lanes := c.Memory()
			bound, _ := growth.Bound(count)
			if c.Len() != count || c.Cost() != cost || c.Next() != first || c.Now() != m.now || c.Births() != m.births || c.Config() != m.c || !cache.Valid(c.State()) {
				t.Fatal(round, n, c.Len(), c.Cost(), c.Next())
			}
			if log < count || log > 2*count+16 || lanes > bound || lanes&(lanes-1) != 0 || lanes < 8 {
				t.Fatal(round, n, log, lanes)
			}
			switch next(40) {
			case 0:
				c = c.Copy()
			case 1:
				d, e := cache.Restore(c.State())
				if e != api.OK {
					t.Fatal(e)
				}
				c = d
			case 2, 3:
				is(t, fmt.Sprint(m.events))(c.Drain())
				m.events = nil
			}
			if t.Failed() {
				t.Fatal(round, n)
			}
		}
	}
}

func TestMany(t *testing.T) {
	c := cacheOf(t, of(2000, 1<<30, 80))
	for i := range 6000 {
		if e := c.SetTTL(api.Time(i), strconv.Itoa(i), nil, 100000); e != api.OK {
			t.Fatal(e)
		}
	}
	is(t, "2000 4000 6000")(c.Len(), len(c.Drain()), c.Births())
	n := 0
	for at := uint64(0); ; n++ {
		x, ok, _ := c.After(6000, at)
		if !ok {
			break
		}
		at = x.Birth
	}
	is(t, "2000")(n)
}

func TestMostEvents(t *testing.T) {
	s := good()
	v := s.Events[0]
	s.Events = make([]api.Event, event.MaxEvents)
	for i := range s.Events {
		s.Events[i] = v
	}
	c, e := cache.Restore(s)
	is(t, "true 0 7 1048576 0")(cache.Valid(s), e, c.Advance(10), len(c.Drain()), c.Advance(10))
}

func TestCompact(t *testing.T) {
	c := cacheOf(t, of(9, 1000, 50))
	for i := range 5 {
		_ = c.Set(1, strconv.Itoa(i), nil)
	}
	_, _ = c.Delete(1, "1")
	_, _, _ = c.Get(1, "3")
	c.Drain()
	was := fmt.Sprint(c.State())
	log, _ := c.Memory()
	is(t, "5 0")(log, c.Compact(1))
	log, _ = c.Memory()
	is(t, "4")(log)
	is(t, was)(fmt.Sprint(c.State()))
	is(t, "0 [1 3 5] [4]")(c.Set(1, "5", nil), c.Order(api.Probation)[:3], c.Order(api.Protected))
}
