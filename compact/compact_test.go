package compact_test

import (
	"fmt"
	"strconv"
	"testing"

	"cubbyhole/api"
	"cubbyhole/compact"
	"cubbyhole/dict"
	"cubbyhole/entrylog"
	"cubbyhole/hash"
)

func is(t *testing.T, want string) func(got ...any) {
	return func(got ...any) {
		t.Helper()
		if s := fmt.Sprint(got); s != "["+want+"]" {
			t.Errorf("got %s, want %s", s, want)
		}
	}
}

func logOf(keys ...string) *entrylog.Log {
	l := entrylog.New()
	for i, k := range keys {
		_, _ = l.Append(api.Entry{Key: k, Value: []byte{byte(i)}, Deadline: api.Time(i), Birth: uint64(i + 1)})
	}
	return l
}

func list(l *entrylog.Log) string {
	s := ""
	for i, e := range l.All() {
		s += fmt.Sprint(i, e)
	}
	return s
}

func TestDue(t *testing.T) {
	for _, c := range []struct {
		length, live int
		want         bool
	}{{16, 0, false}, {17, 0, true}, {18, 1, false}, {19, 1, true}, {-1, 0, false}, {0, -1, false}, {100, -1, false}, {0, 0, false}, {216, 100, false}, {217, 100, true}, {1<<63 - 1, 1<<63 - 1, false}, {1<<63 - 1, 1 << 62, false}, {1<<63 - 1, 1 << 61, true}, {-1 << 63, 5, false}, {-1 << 63, -1 << 63, false}, {5, 1<<63 - 1, false}, {0, 1<<63 - 11, false}} {
		if compact.Due(c.length, c.live) != c.want {
			t.Error(c)
		}
	}
}

func TestExamples(t *testing.T) {
	l := logOf("a", "b", "c", "d")
	_, _ = l.Remove(1)
	_, _ = l.Remove(0)
	l2, m, e := compact.Log(l)
	if e != api.OK {
		t.Fatal(e)
	}
	is(t, "0 {c [2] 2 3}1 {d [3] 3 4}")(list(l2))
	is(t, "2 {c [2] 2 3}3 {d [3] 3 4}")(list(l))
	is(t, "2 2 4 2")(l2.Len(), l2.Live(), l.Len(), l.Live())
	is(t, "2 4")(m.Len())
	is(t, "0 0")(m.To(2))
	is(t, "1 0")(m.To(3))
	is(t, "0 9")(m.To(1))
	is(t, "0 9")(m.To(4))
	is(t, "0 9")(m.To(1<<32 - 1))
	is(t, "2 0")(m.From(0))
	is(t, "3 0")(m.From(1))
	is(t, "0 9")(m.From(2))
	is(t, "0 9")(m.From(1<<32 - 1))
	_, _ = l2.Remove(0)
	l3, n, _ := compact.Log(l2)
	is(t, "0 {d [3] 3 4}")(list(l3))
	both, e := m.Then(n)
	is(t, "0")(e)
	is(t, "1 4")(both.Len())
	is(t, "0 0")(both.To(3))
	is(t, "0 9")(both.To(2))
	is(t, "3 0")(both.From(0))
	bad, e := n.Then(m)
	is(t, "2")(e)
	is(t, "0 0")(bad.Len())
	same, again, _ := compact.Log(l3)
	is(t, list(l3))(list(same))
	is(t, "1 1")(again.Len())
}

func TestZero(t *testing.T) {
	var m compact.Moves
	is(t, "0 0")(m.Len())
	is(t, "0 9")(m.To(0))
	is(t, "0 9")(m.From(0))
	n, e := m.Then(m)
	is(t, "0")(e)
	is(t, "0 0")(n.Len())
	for _, l := range []*entrylog.Log{nil, {}} {
		x, m, e := compact.Log(l)
		is(t, "true 1")(x == nil, e)
		is(t, "0 0")(m.Len())
	}
	for _, d := range []*dict.Dict{nil, {}} {
		x, m, e := compact.Dict(d)
		is(t, "true 1")(x == nil, e)
		is(t, "0 0")(m.Len())
	}
	l, m, e := compact.Log(entrylog.New())
	is(t, "0 0")(l.Len(), e)
	is(t, "0 0")(m.Len())
	l = logOf("a")
	_, _ = l.Remove(0)
	l, m, e = compact.Log(l)
	is(t, "0 0")(l.Len(), e)
	is(t, "0 1")(m.Len())
}

func TestDict(t *testing.T) {
	d := dict.New(hash.New(5, true))
	for i := range 40 {
		_, _ = d.Insert(api.Entry{Key: strconv.Itoa(i), Value: []byte{byte(i)}, Birth: uint64(i + 1)})
	}
	for i := range uint32(30) {
		_, _ = d.Remove(i + i/5)
	}
	x, m, e := compact.Dict(d)
	if e != api.OK {
		t.Fatal(e)
	}
	is(t, "10 40")(m.Len())
	is(t, "10 2 0")(x.Sizes())
	is(t, "10 true")(x.Len(), x.Hasher() == d.Hasher())
	next := uint32(0)
	for old, e := range d.All() {
		slot, err := m.To(old)
		back, err2 := m.From(slot)
		y, err3 := x.Get(slot)
		z, err4 := x.Find(e.Key)
		if slot != next || err != api.OK || back != old || err2 != api.OK || fmt.Sprint(y) != fmt.Sprint(e) || err3 != api.OK || z != slot || err4 != api.OK {
			t.Error(old, slot, back)
		}
		next++
	}
	_, _ = x.Remove(0)
	is(t, "10 9")(d.Len(), x.Len())
	log, _, _ := d.Sizes()
	is(t, "40")(log)
}
