package audit_test

import (
	"fmt"
	"slices"
	"testing"

	"cubbyhole/api"
	"cubbyhole/audit"
	"cubbyhole/cache"
	"cubbyhole/cursor"
	"cubbyhole/script"
)

func is(t *testing.T, want string) func(got ...any) {
	return func(got ...any) {
		t.Helper()
		if s := fmt.Sprint(got); s != "["+want+"]" {
			t.Errorf("got %s, want %s", s, want)
		}
	}
}

func of(count, bytes, protected int) api.Config {
	return api.Config{Count: count, Bytes: bytes, Protected: protected}
}

// run returns the trace of some operations.
func run(t *testing.T, c api.Config, l ...api.Op) []api.Result {
	t.Helper()
	x, _ := cache.New(c)
	s, _ := cursor.New(x)
	r, e := script.On(s, l)
	if e != api.OK {
		t.Fatal(e)
	}
	return r
}

func TestExamples(t *testing.T) {
	c := of(2, 100, 0)
	trace := func() []api.Result {
		return []api.Result{
			{Op: api.Op{Kind: api.OpSet, Key: "a", Value: []byte("x")}, Len: 1, Cost: 50},
			{Op: api.Op{Kind: api.OpGet, Key: "a", Ticks: 3}, At: 3, Hit: true, Value: []byte("x"), Len: 1, Cost: 50},
		}
	}
	with := func(f func(r []api.Result)) []api.Result {
		r := trace()
		f(r)
		return r
	}
	is(t, "-1 0 0")(audit.Check(c, trace()))
	is(t, "[{a [120] 18446744073709551615 1}] 0")(audit.Live(c, trace()))
	is(t, "0 5 0")(audit.Check(c, with(func(r []api.Result) { r[0].Cost = 51 })))
	is(t, "1 1 0")(audit.Check(c, with(func(r []api.Result) { r[1].At = 2 })))
	is(t, "1 6 0")(audit.Check(c, with(func(r []api.Result) { r[1].Hit = false })))
	is(t, "1 8 0")(audit.Check(c, with(func(r []api.Result) { r[1].Err = api.ErrArg })))
	is(t, "1 4 0")(audit.Check(c, with(func(r []api.Result) {
		r[1].Events = []api.Event{{Kind: api.Evicted, Key: "a", Value: []byte("x"), Birth: 1, Deadline: api.Never, At: 3}}
		r[1].Len, r[1].Cost = 0, 0
	})))
	is(t, "0 0 240")(audit.Check(of(0, 1, 0), trace()))
	is(t, "[] 10")(audit.Live(c, with(func(r []api.Result) { r[1].Hit = false })))
	is(t, "[] 241")(audit.Live(of(1, 0, 0), nil))
	is(t, "-1 0 0")(audit.Check(c, nil))
	is(t, "[] 0")(audit.Live(c, nil))
	many := make([]api.Result, script.MaxOps+1)
	is(t, "0 0 7")(audit.Check(c, many))
	is(t, "[] 7")(audit.Live(c, many))
	is(t, "0 0 242")(audit.Check(of(1, 1, 100), many))
	is(t, "0 8 0")(audit.Check(c, many[1:]))
}

const (
	set, get, peek, touch, del, clr, resize, adv = api.OpSet, api.OpGet, api.OpPeek, api.OpTouch, api.OpDelete, api.OpClear, api.OpResize, api.OpAdvance
	setTTL, open, next, seek, closes             = api.OpSetTTL, api.OpOpen, api.OpNext, api.OpSeek, api.OpClose
)

// scene is a trace of a cache with three entries, of which b expires at 5, and with a cursor; and then one operation.
func scene(t *testing.T, c api.Config, o ...api.Op) []api.Result {
	t.Helper()
	return run(t, c, append([]api.Op{
		{Kind: set, Key: "a", Value: []byte("1")}, {Kind: setTTL, Key: "b", TTL: 5}, {Kind: set, Key: "c", Ticks: 1}, {Kind: open}, {Kind: get, Key: "a"},
	}, o...)...)
}

func TestComplaints(t *testing.T) {
	lists, plain := of(3, 200, 50), of(3, 200, 0)
	e := func(k api.EventKind, key, value string, birth uint64, deadline, at api.Time) api.Event {
		return api.Event{Kind: k, Key: key, Value: []byte(value), Birth: birth, Deadline: deadline, At: at}
	}
	for i, c := range []struct {
		c    api.Config
		o    api.Op
		f    func(r *api.Result)
		want api.Complaint
	}{
		{lists, api.Op{Kind: adv}, func(r *api.Result) { r.Op.Kind = 0 }, 8}, {lists, api.Op{Kind: adv}, func(r *api.Result) { r.Op.Kind = 15 }, 8}, {lists, api.Op{Kind: adv}, func(r *api.Result) { r.Op.Kind = -3 }, 8},
		{lists, api.Op{Kind: adv}, func(r *api.Result) { r.Err = api.ErrFull; r.At = 9 }, 8}, {lists, api.Op{Kind: get, Key: ""}, func(r *api.Result) { r.Err = api.OK }, 8}, {lists, api.Op{Kind: setTTL, Key: "k"}, func(r *api.Result) { r.Err = api.OK }, 8},
		{lists, api.Op{Kind: touch, Key: "k"}, func(r *api.Result) { r.Err = api.OK }, 8}, {lists, api.Op{Kind: set, Key: "k", Value: make([]byte, 65537)}, func(r *api.Result) { r.Err = api.ErrTooBig }, 8}, {lists, api.Op{Kind: set, Key: "k", Value: make([]byte, 152)}, func(r *api.Result) { r.Err = api.OK }, 8},
		{lists, api.Op{Kind: resize, Count: 0, Bytes: 0}, func(r *api.Result) { r.Err = 241 }, 8}, {lists, api.Op{Kind: next, Cursor: 1}, func(r *api.Result) { r.Err = api.ErrEnd }, 8}, {lists, api.Op{Kind: seek, Cursor: 64}, func(r *api.Result) { r.Err = api.OK }, 8}, {lists, api.Op{Kind: closes, Cursor: -1}, func(r *api.Result) { r.Err = api.OK }, 8},
		{lists, api.Op{Kind: next}, func(r *api.Result) { r.Err = api.ErrEnd; r.Entry = api.Entry{} }, 8}, {lists, api.Op{Kind: open}, func(r *api.Result) { r.Err = api.ErrFull; r.Cursor = 0 }, 8},
		// times
		{lists, api.Op{Kind: adv, Ticks: 1}, func(r *api.Result) { r.At++ }, 1}, {lists, api.Op{Kind: get, Ticks: 1}, func(r *api.Result) { r.At = 2 }, 1}, {lists, api.Op{Kind: next, Cursor: 5, Ticks: 1}, func(r *api.Result) { r.At = 2 }, 1}, {lists, api.Op{Kind: seek, Cursor: 5, Ticks: 1}, func(r *api.Result) { r.At = 1 }, 1},
		// what expires
		{lists, api.Op{Kind: adv, Ticks: 4}, func(r *api.Result) { r.Events = nil }, 3}, {lists, api.Op{Kind: adv, Ticks: 4}, func(r *api.Result) { r.Events[0].Birth = 3 }, 3}, {lists, api.Op{Kind: adv, Ticks: 4}, func(r *api.Result) { r.Events[0].At = 4 }, 3}, {lists, api.Op{Kind: adv, Ticks: 4}, func(r *api.Result) { r.Events[0].Deadline = 4 }, 3},
		{lists, api.Op{Kind: adv, Ticks: 4}, func(r *api.Result) { r.Events[0].Value = []byte("1") }, 3}, {lists, api.Op{Kind: adv, Ticks: 4}, func(r *api.Result) { r.Events[0].Kind = api.Evicted }, 3}, {lists, api.Op{Kind: adv, Ticks: 4}, func(r *api.Result) { r.Events = append(r.Events, r.Events[0]) }, 3},
		{lists, api.Op{Kind: adv, Ticks: 3}, func(r *api.Result) { r.Events = append(r.Events, e(api.Expired, "b", "", 2, 5, 4)) }, 3}, {lists, api.Op{Kind: get, Ticks: 9}, func(r *api.Result) { r.Events = append(r.Events, e(api.Expired, "b", "", 2, 5, 1)) }, 3},
		// the operation's own events
		{lists, api.Op{Kind: set, Key: "a"}, func(r *api.Result) { r.Events = nil }, 2}, {lists, api.Op{Kind: set, Key: "a"}, func(r *api.Result) { r.Events[0].Value = nil }, 2}, {lists, api.Op{Kind: setTTL, Key: "a", TTL: 3}, func(r *api.Result) { r.Events[0].Deadline = 4 }, 2}, {lists, api.Op{Kind: del, Key: "a"}, func(r *api.Result) { r.Events[0].Kind = api.Evicted }, 2},
		{lists, api.Op{Kind: clr}, func(r *api.Result) { r.Events[0], r.Events[1] = r.Events[1], r.Events[0] }, 2}, {lists, api.Op{Kind: clr}, func(r *api.Result) { r.Events = r.Events[1:] }, 2}, {lists, api.Op{Kind: clr}, func(r *api.Result) { r.Events = append(r.Events, r.Events[0]) }, 2},
		{lists, api.Op{Kind: adv}, func(r *api.Result) { r.Events = append(r.Events, e(api.Deleted, "a", "1", 1, api.Never, 1)) }, 2}, {lists, api.Op{Kind: get}, func(r *api.Result) { r.Events = append(r.Events, e(api.Evicted, "a", "1", 1, api.Never, 1)) }, 2},
		{lists, api.Op{Kind: set, Key: "a"}, func(r *api.Result) { r.Events = append(r.Events, r.Events[0]) }, 2}, {lists, api.Op{Kind: set, Key: "d"}, func(r *api.Result) { r.Events[0].Key = "x" }, 2}, {lists, api.Op{Kind: set, Key: "d"}, func(r *api.Result) { r.Events[0].Deadline++ }, 2}, {lists, api.Op{Kind: set, Key: "d"}, func(r *api.Result) { r.Events[0].At = 0 }, 2},
		// victims
		{lists, api.Op{Kind: adv}, func(r *api.Result) { r.Events = append(r.Events, e(api.Evicted, "a", "1", 1, api.Never, 1)) }, 4}, {lists, api.Op{Kind: set, Key: "d"}, func(r *api.Result) { r.Events = append(r.Events, e(api.Evicted, "c", "", 3, api.Never, 1)) }, 4},
		{lists, api.Op{Kind: set, Key: "d"}, func(r *api.Result) { r.Events[0] = e(api.Evicted, "d", "", 4, api.Never, 1) }, 4}, {lists, api.Op{Kind: set, Key: "d"}, func(r *api.Result) { r.Events[0] = e(api.Evicted, "c", "", 3, api.Never, 1) }, 0},
		{plain, api.Op{Kind: set, Key: "d"}, func(r *api.Result) { r.Events[0] = e(api.Evicted, "c", "", 3, api.Never, 1) }, 4}, {plain, api.Op{Kind: set, Key: "d"}, func(r *api.Result) {}, 0},
		{plain, api.Op{Kind: set, Key: "d"}, func(r *api.Result) { r.Events[0] = e(api.Evicted, "a", "1", 1, api.Never, 1); r.Cost-- }, 4},
		{lists, api.Op{Kind: setTTL, Key: "d", TTL: 9}, func(r *api.Result) { r.Events[0] = e(api.Evicted, "d", "", 4, 10, 1) }, 4}, {lists, api.Op{Kind: set, Key: "d", Value: make([]byte, 151)}, func(r *api.Result) {}, 0},
		// budgets
		{lists, api.Op{Kind: set, Key: "d"}, func(r *api.Result) { r.Events = nil }, 5}, {lists, api.Op{Kind: resize, Count: 1, Bytes: 100}, func(r *api.Result) { r.Events = r.Events[1:] }, 5}, {lists, api.Op{Kind: adv}, func(r *api.Result) { r.Len = 2 }, 5}, {lists, api.Op{Kind: adv}, func(r *api.Result) { r.Cost++ }, 5},
		{lists, api.Op{Kind: get}, func(r *api.Result) { r.Len++ }, 5}, {lists, api.Op{Kind: resize, Count: 3, Bytes: 100}, func(r *api.Result) { r.Events, r.Len, r.Cost = nil, 3, 148 }, 5},
		// what is read
		{lists, api.Op{Kind: get, Key: "a"}, func(r *api.Result) { r.Value = []byte("2") }, 6}, {lists, api.Op{Kind: get, Key: "x"}, func(r *api.Result) { r.Value = []byte("2") }, 6}, {lists, api.Op{Kind: get, Key: "x"}, func(r *api.Result) { r.Hit = true }, 6}, {lists, api.Op{Kind: touch, Key: "a", TTL: 4}, func(r *api.Result) { r.Hit = false }, 6},
		{lists, api.Op{Kind: del, Key: "a"}, func(r *api.Result) { r.Hit = false }, 6}, {lists, api.Op{Kind: peek, Key: "a"}, func(r *api.Result) { r.Entry.Birth++ }, 6}, {lists, api.Op{Kind: peek, Key: "a"}, func(r *api.Result) { r.Hit = false }, 6}, {lists, api.Op{Kind: peek, Key: "a"}, func(r *api.Result) { r.Entry = api.Entry{} }, 6},
		{lists, api.Op{Kind: set, Key: "a"}, func(r *api.Result) { r.Hit = true }, 6}, {lists, api.Op{Kind: get, Key: ""}, func(r *api.Result) { r.Hit = true }, 6}, {lists, api.Op{Kind: touch, Key: "a", TTL: 3}, func(r *api.Result) { r.Value = []byte("1") }, 6}, {lists, api.Op{Kind: get, Key: "a"}, func(r *api.Result) { r.Entry.Key = "a" }, 6},
		{lists, api.Op{Kind: next}, func(r *api.Result) { r.Hit = true }, 6}, {lists, api.Op{Kind: next}, func(r *api.Result) { r.Value = []byte("1") }, 6}, {lists, api.Op{Kind: peek, Key: "x"}, func(r *api.Result) { r.Entry.Deadline = 1 }, 6}, {lists, api.Op{Kind: adv}, func(r *api.Result) { r.Hit = true }, 6}, {lists, api.Op{Kind: get, Key: "b", Ticks: 4}, func(r *api.Result) { r.Hit = true }, 6},
		// cursors
		{lists, api.Op{Kind: open}, func(r *api.Result) { r.Cursor = 0 }, 7}, {lists, api.Op{Kind: adv}, func(r *api.Result) { r.Cursor = 1 }, 7}, {lists, api.Op{Kind: next}, func(r *api.Result) { r.Cursor = 1 }, 7}, {lists, api.Op{Kind: next}, func(r *api.Result) { r.Entry.Value = nil }, 7}, {lists, api.Op{Kind: next}, func(r *api.Result) { r.Entry = api.Entry{} }, 7},
		{lists, api.Op{Kind: next, Cursor: 1}, func(r *api.Result) { r.Entry.Key = "a" }, 7}, {lists, api.Op{Kind: closes}, func(r *api.Result) { r.Cursor = 1 }, 7}, {lists, api.Op{Kind: get, Key: ""}, func(r *api.Result) { r.Cursor = 1 }, 7},
	} {
		r := scene(t, c.c, c.o, api.Op{Kind: adv})
		is(t, "-1 0 0")(audit.Check(c.c, r))
		c.f(&r[5])
		at, x, err := audit.Check(c.c, r[:6])
		if c.want == 0 && at == -1 {
			at = 5
		}
		if at != 5 || x != c.want || err != api.OK {
			t.Error(i, c.o, at, x, err)
		}
		if l, err := audit.Live(c.c, r[:6]); (err == api.OK) != (c.want == 0) || c.want != 0 && (err != api.ErrCheck || l != nil) {
			t.Error(i, err)
		}
	}
}

// TestOrder finds the first thing that is wrong.
func TestOrder(t *testing.T) {
	c := of(3, 200, 50)
	spoil := []func(r *api.Result){
		func(r *api.Result) { r.Cursor = 1 }, func(r *api.Result) { r.Hit = true }, func(r *api.Result) { r.Len++ },
		func(r *api.Result) {
			r.Events = append(r.Events, api.Event{Kind: api.Evicted, Key: "c", Birth: 3, Deadline: api.Never, At: 5})
		},
		func(r *api.Result) { r.Events[1].Birth++ }, func(r *api.Result) { r.Events[0].Birth++ }, func(r *api.Result) { r.At++ }, func(r *api.Result) { r.Err++ },
	}
	r := scene(t, c, api.Op{Kind: set, Key: "a", Ticks: 4})
	for i, want := range []api.Complaint{7, 6, 5, 4, 2, 3, 1, 8} {
		spoil[i](&r[5])
		if at, x, e := audit.Check(c, r); at != 5 || x != want || e != api.OK {
			t.Error(i, at, x, e)
		}
	}
}

// TestUses looks at what counts as a use if there is one list.
func TestUses(t *testing.T) {
	c := of(3, 1000, 0)
	for _, o := range []api.Op{{Kind: get, Key: "a"}, {Kind: touch, Key: "a", TTL: 9}, {Kind: set, Key: "a"}, {Kind: setTTL, Key: "a", TTL: 5}} {
		r := run(t, c, api.Op{Kind: set, Key: "a"}, api.Op{Kind: set, Key: "b"}, api.Op{Kind: set, Key: "c"}, o, api.Op{Kind: set, Key: "d"})
		is(t, "-1 0 0")(audit.Check(c, r))
		is(t, "b")(r[4].Events[0].Key)
		l, _ := audit.Live(c, r[:4])
		v := api.Event{Kind: api.Evicted, Key: "a", Value: l[0].Value, Birth: 1, Deadline: l[0].Deadline}
		r[4].Events[0] = v
		is(t, "4 4 0")(audit.Check(c, r))
	}
	r := run(t, c, api.Op{Kind: set, Key: "a"}, api.Op{Kind: set, Key: "b"}, api.Op{Kind: set, Key: "c"}, api.Op{Kind: peek, Key: "a"}, api.Op{Kind: set, Key: "d"})
	is(t, "a -1 0 0")(append([]any{r[4].Events[0].Key}, check(c, r)...)...)
}

func check(c api.Config, r []api.Result) []any {
	at, x, e := audit.Check(c, r)
	return []any{at, x, e}
}

func TestCursors(t *testing.T) {
	c := of(10, 1000, 50)
	l := []api.Op{{Kind: set, Key: "a"}, {Kind: setTTL, Key: "b", TTL: 3}, {Kind: set, Key: "c"}}
	for range cursor.MaxCursors + 1 {
		l = append(l, api.Op{Kind: open})
	}
	l = append(l, api.Op{Kind: closes, Cursor: 3}, api.Op{Kind: seek, Cursor: 3}, api.Op{Kind: open}, api.Op{Kind: seek, Cursor: 3, Birth: 1}, api.Op{Kind: next, Cursor: 3, Ticks: 3}, api.Op{Kind: next, Cursor: 3, Ticks: 1}, api.Op{Kind: next, Cursor: 200})
	r := run(t, c, l...)
	is(t, "-1 0 0")(audit.Check(c, r))
	is(t, "7 3 9 3 c 14 9 4")(r[67].Err, r[70].Cursor, r[69].Err, r[70].Cursor, r[72].Entry.Key, r[73].Err, r[74].Err, r[74].At)
}

// TestScripts judges the traces of many scripts, and spoils them.
func TestScripts(t *testing.T) {
	r := uint32(11)
	next := func() byte { r = r*1664525 + 1013904223; return byte(r >> 24) }
	for round := range 60 {
		c := of(int(next())%6+1, int(next())*3+40, int(next())%3*40)
		c.Seed, c.Same = uint64(next()), round%2 == 0
		b := make([]byte, 500)
		for i := range b {
			b[i] = next()
			if i%5 > 1 {
				b[i] &= 19
			}
		}
		x, _ := cache.New(c)
		s, _ := cursor.New(x)
		ops, _ := script.Parse(b)
		l, _ := script.On(s, ops)
		is(t, "-1 0 0")(audit.Check(c, l))
		live, e := audit.Live(c, l)
		if fmt.Sprint(live) != fmt.Sprint(x.Entries()) || e != api.OK {
			t.Error(round, live, x.Entries())
		}
		for i := range l {
			if round > 3 {
				break
			}
			for k, f := range []func(r *api.Result){func(r *api.Result) { r.Len++ }, func(r *api.Result) { r.Cost-- }, func(r *api.Result) { r.At++ }, func(r *api.Result) { r.Hit = !r.Hit }, func(r *api.Result) { r.Err = 99 }} {
				spoilt := slices.Clone(l)
				f(&spoilt[i])
				if at, x, e := audit.Check(c, spoilt); at != i || x == 0 || e != api.OK {
					t.Fatal(round, i, k, at, x, e)
				}
			}
		}
	}
	v := []byte("v")
	l := run(t, of(1, 100, 0), api.Op{Kind: set, Key: "k", Value: v})
	live, _ := audit.Live(of(1, 100, 0), l)
	live[0].Value[0] = 'w'
	is(t, "[118]")(l[0].Op.Value)
}
