package watch_test

import (
	"fmt"
	"strings"
	"testing"

	"cubbyhole/api"
	"cubbyhole/watch"
)

func is(t *testing.T, want string) func(got ...any) {
	return func(got ...any) {
		t.Helper()
		if s := fmt.Sprint(got); s != "["+want+"]" {
			t.Errorf("got %s, want %s", s, want)
		}
	}
}

func of(kind api.EventKind, key string) api.Event {
	v := api.Event{Kind: kind, Key: key, Value: []byte{1}, Birth: 1, Deadline: api.Never}
	if kind == api.Expired {
		v.Deadline = 0
	}
	return v
}

func rule(prefix string, room int, oldest bool, kinds ...api.EventKind) api.WatchRule {
	return api.WatchRule{Prefix: prefix, Kinds: kinds, Room: room, Oldest: oldest}
}

// keys returns the keys and kinds of events.
func keys(l []api.Event, e api.Errno) string {
	s := ""
	for _, v := range l {
		s += fmt.Sprint(v.Key, int(v.Kind), " ")
	}
	return s + fmt.Sprint(int(e))
}

func TestExamples(t *testing.T) {
	var h watch.Hub
	is(t, "0 0")(h.Add(rule("a", 2, false)))
	is(t, "1 0")(h.Add(rule("", 1, true, api.Deleted)))
	l := []api.Event{of(api.Deleted, "ab"), of(api.Expired, "b"), of(api.Expired, "a"), of(api.Deleted, "ac"), of(api.Deleted, "c")}
	is(t, "5 0")(h.Publish(l))
	is(t, "ab4 a1 0")(keys(h.Take(0, 9)))
	is(t, "1 0")(h.Lost(0))
	is(t, "c4 0")(keys(h.Take(1, 9)))
	is(t, "2 0")(h.Lost(1))
	is(t, "0 0")(h.Remove(0))
	is(t, "0 0")(h.Add(rule("", 1, false)))
	is(t, "9")(keys(h.Take(5, 1)))
	is(t, "0 2")(h.Add(rule("", 0, false)))
	is(t, "0 2")(h.Add(rule("", 1, false, api.Deleted, api.Deleted)))
	is(t, "[0 1]")(h.Watchers())
	is(t, "0 0")(h.Lost(0))
}

func TestErrors(t *testing.T) {
	var h *watch.Hub
	is(t, "0 1")(h.Add(rule("", 0, false)))
	is(t, "0 1")(h.Remove(0))
	is(t, "0 1")(h.Publish(make([]api.Event, 5000)))
	is(t, "[] 1")(h.Take(0, -1))
	is(t, "0 1")(h.Lost(0))
	is(t, "{ [] 0 false} 1")(h.Rule(0))
	is(t, "[] true")(h.Watchers(), h.Copy() == nil)
	h = &watch.Hub{}
	for i, r := range []api.WatchRule{{}, rule(strings.Repeat("p", 251), 1, false), rule("", 1001, false), rule("", -1, false), rule("", 1, false, 0), rule("", 1, false, 6), rule("", 1, false, -1), rule("", 1, false, 1, 2, 1), rule("", 1, false, 1<<40), rule("", 1, false, 70)} {
		if n, e := h.Add(r); n != 0 || e != api.ErrArg {
			t.Error(i, e)
		}
	}
	is(t, "0 0")(h.Publish([]api.Event{of(api.Deleted, "k")}))
	is(t, "0 0")(h.Add(rule(strings.Repeat("p", 250), 1000, false, 5, 1, 3, 2, 4)))
	is(t, "{"+strings.Repeat("p", 250)+" [5 1 3 2 4] 1000 false} 0")(h.Rule(0))
	_, _ = h.Remove(0)
	for i := range watch.MaxWatchers {
		is(t, fmt.Sprint(i, 0))(h.Add(rule("", 1, false)))
	}
	is(t, "0 7")(h.Add(rule("", 1, false)))
	is(t, "0 2")(h.Add(rule("", 0, false)))
	_, _ = h.Remove(63)
	_, _ = h.Remove(7)
	is(t, "7 0")(h.Add(rule("", 1, false)))
	is(t, "63 0")(h.Add(rule("", 1, false)))
	for _, id := range []int{-1, 64, 1 << 40} {
		is(t, "0 9")(h.Remove(id))
		is(t, "[] 9")(h.Take(id, 0))
		is(t, "[] 2")(h.Take(id, -1))
		is(t, "0 9")(h.Lost(id))
		is(t, "{ [] 0 false} 9")(h.Rule(id))
	}
	is(t, "[] 2")(h.Take(0, -1<<63))
	many := make([]api.Event, 4097)
	for i := range many {
		many[i] = of(api.Deleted, "k")
	}
	is(t, "0 5")(h.Publish(many))
	many[4096].Birth = 0
	is(t, "0 2")(h.Publish(many))
	is(t, "0 2")(h.Publish([]api.Event{of(api.Deleted, "k"), {}}))
	is(t, "[] 0")(h.Take(0, 9))
	is(t, "64 0")(h.Publish(many[:4096]))
	is(t, "4095 0")(h.Lost(9))
}

func TestFits(t *testing.T) {
	for _, c := range []struct {
		r    api.WatchRule
		v    api.Event
		want bool
	}{
		{rule("a", 1, false), of(2, "abc"), true}, {rule("ab", 1, false), of(2, "a"), false}, {rule("", 0, false), api.Event{}, true}, {rule("", 1, false, 2, 3), of(3, "x"), true}, {rule("", 1, false, 2, 3), of(4, "x"), false},
		{rule("x", 1, false, 4), of(4, "y"), false}, {rule("", -1, false, 77, 77), api.Event{Kind: 77}, true}, {rule("", -1, false, -3), api.Event{Kind: -3}, true}, {rule("", 1, false, 0), api.Event{}, true}, {rule("", 1, false, 70), api.Event{Kind: 6}, false},
	} {
		if watch.Fits(c.r, c.v) != c.want {
			t.Error(c)
		}
	}
}

func TestCopy(t *testing.T) {
	var h watch.Hub
	r := rule("a", 3, true, api.Deleted, api.Expired)
	_, _ = h.Add(r)
	r.Kinds[0] = api.Evicted
	l := []api.Event{of(api.Deleted, "a1"), of(api.Expired, "a2")}
	_, _ = h.Publish(l)
	l[0].Value[0] = 9
	x := h.Copy()
	_, _ = x.Publish([]api.Event{of(api.Deleted, "a3"), of(api.Deleted, "a4")})
	_, _ = x.Add(rule("", 1, false))
	got, _ := x.Rule(0)
	got.Kinds[0] = 0
	is(t, "{a [4 1] 3 true} 0")(x.Rule(0))
	y, _ := x.Take(0, 2)
	y[0].Value[0] = 8
	is(t, "a21 a34 0")(keys(y, 0))
	is(t, "a44 0")(keys(x.Take(0, 5)))
	is(t, "[0] [0 1]")(h.Watchers(), x.Watchers())
	z, _ := h.Take(0, 1)
	is(t, "[1] a21 0")(z[0].Value, keys(h.Take(0, 1)))
	is(t, "0 0")(h.Lost(0))
	is(t, "1 0")(x.Lost(0))
	e := (&watch.Hub{}).Copy()
	is(t, "0 0")(e.Add(rule("", 1, false)))
}

// TestModel compares watchers with lists.
func TestModel(t *testing.T) {
	var h watch.Hub
	rules := []api.WatchRule{rule("", 3, false), rule("a", 1, true), rule("", 5, true, 1, 4), rule("ab", 2, false, 2), rule("b", 7, true, 1, 2, 3, 4, 5)}
	wait := make([][]api.Event, len(rules))
	lost := make([]int, len(rules))
	for i, r := range rules {
		is(t, fmt.Sprint(i, 0))(h.Add(r))
	}
	r := uint32(3)
	for step := range 2000 {
		var l []api.Event
		r = r*1664525 + 1013904223
		for range r >> 28 % 5 {
			r = r*1664525 + 1013904223
			l = append(l, of(api.EventKind(r>>20%5+1), []string{"a", "ab", "b", "abb", "c"}[r>>16%5]))
		}
		n := 0
		for i, rule := range rules {
			for _, v := range l {
				if !watch.Fits(rule, v) {
					continue
				}
				if len(wait[i]) == rule.Room {
					lost[i]++
					if !rule.Oldest {
						continue
					}
					wait[i] = wait[i][1:]
				}
				wait[i] = append(wait[i], v)
				n++
			}
		}
		is(t, fmt.Sprint(n, 0))(h.Publish(l))
		id, most := int(r>>8%5), int(r>>12%4)
		k := min(most, len(wait[id]))
		is(t, keys(wait[id][:k], 0))(keys(h.Take(id, most)))
		wait[id] = wait[id][k:]
		is(t, fmt.Sprint(lost[id], 0))(h.Lost(id))
		if t.Failed() {
			t.Fatal(step)
		}
	}
	for i := range rules {
		is(t, fmt.Sprint(len(wait[i]), 0))(h.Remove(i))
	}
}
