package entrylog_test

import (
	"fmt"
	"strings"
	"testing"

	"cubbyhole/api"
	"cubbyhole/entrylog"
)

func is(t *testing.T, want string) func(got ...any) {
	return func(got ...any) {
		t.Helper()
		if s := fmt.Sprint(got); s != "["+want+"]" {
			t.Errorf("got %s, want %s", s, want)
		}
	}
}

var (
	a = api.Entry{Key: "a", Value: []byte{1}, Deadline: 5, Birth: 1}
	b = api.Entry{Key: "b", Deadline: api.Never, Birth: 2}
)

func list(l *entrylog.Log) string {
	s := ""
	for i, e := range l.All() {
		s += fmt.Sprint(i, e.Key, e.Value, e.Deadline, e.Birth, " ")
	}
	return s
}

func TestExamples(t *testing.T) {
	l := entrylog.New()
	is(t, "0 0")(l.Append(a))
	is(t, "1 0")(l.Append(b))
	is(t, "0 2")(l.Append(api.Entry{}))
	is(t, "2 2")(l.Len(), l.Live())
	is(t, "{a [1] 5 1} 0")(l.Remove(0))
	is(t, "{ [] 0 0} 9")(l.Remove(0))
	is(t, "{ [] 0 0} 9")(l.Get(0))
	is(t, "b 0")(l.Key(1))
	is(t, " 9")(l.Key(0))
	is(t, "1 0")(l.Next(0))
	is(t, "1 0")(l.Next(1))
	is(t, "0 9")(l.Next(2))
	is(t, "2 0")(l.Append(a))
	is(t, "0")(l.Set(2, []byte{9, 9}, 7))
	is(t, "{a [9 9] 7 1} 0")(l.Get(2))
	is(t, "3 2")(l.Len(), l.Live())
	is(t, "1b[] 18446744073709551615 2 2a[9 9] 7 1 ")(list(l))
}

func TestErrors(t *testing.T) {
	for _, l := range []*entrylog.Log{nil, {}} {
		is(t, "0 1")(l.Append(api.Entry{}))
		is(t, "{ [] 0 0} 1")(l.Get(0))
		is(t, " 1")(l.Key(0))
		is(t, "1")(l.Set(0, make([]byte, 70000), 0))
		is(t, "{ [] 0 0} 1")(l.Remove(0))
		is(t, "0 1")(l.Next(0))
		is(t, "0 0 true")(l.Len(), l.Live(), l.Copy() == nil)
		is(t, "")(list(l))
	}
	l := entrylog.New()
	long := make([]byte, 65537)
	is(t, "0 2")(l.Append(api.Entry{Key: "k"}))
	is(t, "0 2")(l.Append(api.Entry{Key: "", Birth: 1, Value: long}))
	is(t, "0 2")(l.Append(api.Entry{Key: "k", Value: long}))
	is(t, "0 2")(l.Append(api.Entry{Key: strings.Repeat("k", 251), Birth: 1}))
	is(t, "0 5")(l.Append(api.Entry{Key: "k", Birth: 1, Value: long}))
	is(t, "0 9")(l.Next(0))
	is(t, "0 0")(l.Append(api.Entry{Key: "k", Birth: 1, Value: long[:65536]}))
	is(t, "9")(l.Set(1, long, 0))
	is(t, "5")(l.Set(0, long, 0))
	is(t, "9")(l.Set(1, nil, 0))
	is(t, "0")(l.Set(0, long[:65536], 0))
	is(t, "{ [] 0 0} 9")(l.Remove(1<<32 - 1))
	is(t, "{ [] 0 0} 9")(l.Get(1))
	is(t, "0 9")(l.Next(1<<32 - 1))
	is(t, "1 1")(l.Len(), l.Live())
}

func TestIndependence(t *testing.T) {
	l := entrylog.New()
	v := []byte{1}
	_, _ = l.Append(api.Entry{Key: "a", Value: v, Birth: 9})
	_, _ = l.Append(b)
	v[0] = 2
	is(t, "{a [1] 0 9} 0")(l.Get(0))
	x, _ := l.Get(0)
	x.Value[0] = 3
	is(t, "{a [1] 0 9} 0")(l.Get(0))
	all := l.All()
	y := l.Copy()
	v = []byte{4}
	is(t, "0")(l.Set(0, v, 3))
	v[0] = 5
	is(t, "{a [4] 3 9} 0")(l.Get(0))
	_, _ = l.Remove(1)
	_, _ = l.Append(a)
	for range 2 {
		s := ""
		for i, e := range all {
			s += fmt.Sprint(i, e)
			if len(e.Value) > 0 {
				e.Value[0] = 99
			}
		}
		is(t, "0 {a [1] 0 9}1 {b [] 18446744073709551615 2}")(s)
	}
	for range all {
		break
	}
	is(t, "0a[1] 0 9 1b[] 18446744073709551615 2 ")(list(y))
	is(t, "2 2 3 2")(y.Len(), y.Live(), l.Len(), l.Live())
	_, _ = y.Remove(0)
	is(t, "{a [4] 3 9} 0")(l.Get(0))
	all = l.All()
	z, _ := l.Remove(0)
	z.Value[0] = 77
	for _, e := range all {
		is(t, "[4]")(e.Value)
		break
	}
}

func TestFull(t *testing.T) {
	l := entrylog.New()
	for range entrylog.MaxLog {
		if _, e := l.Append(b); e != api.OK {
			t.Fatal(e)
		}
	}
	is(t, "0 7")(l.Append(a))
	is(t, "0 2")(l.Append(api.Entry{}))
	_, _ = l.Remove(0)
	is(t, "0 7")(l.Append(a))
	is(t, "4194304 4194303")(l.Len(), l.Live())
	is(t, "4194303 0")(l.Next(4194303))
}
