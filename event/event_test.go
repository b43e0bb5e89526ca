package event_test

import (
	"fmt"
	"strings"
	"testing"

	"cubbyhole/api"
	"cubbyhole/event"
)

func is(t *testing.T, want string) func(got ...any) {
	return func(got ...any) {
		t.Helper()
		if s := fmt.Sprint(got); s != "["+want+"]" {
			t.Errorf("got %s, want %s", s, want)
		}
	}
}

const never = api.Never

var (
	replaced = api.Event{Kind: api.Replaced, Key: "k", Value: []byte{1, 2}, Birth: 3, Deadline: 20, At: 12}
	cleared  = api.Event{Kind: api.Cleared, Key: "k", Birth: 7, Deadline: never, At: 0}
	expired  = api.Event{Kind: api.Expired, Key: "k", Birth: 1, Deadline: 20, At: 20}
)

// with returns an event with something changed.
func with(v api.Event, f func(*api.Event)) api.Event {
	f(&v)
	return v
}

func TestValidText(t *testing.T) {
	is(t, "12 replaced 3 20 6b 0102 0")(joined(event.Text(replaced)))
	is(t, "20 expired 1 20 6b - 0")(joined(event.Text(expired)))
	is(t, "0 cleared 7 never 6b - 0")(joined(event.Text(cleared)))
	is(t, "18446744073709551614 evicted 7 never 6b - 0")(joined(event.Text(with(cleared, func(v *api.Event) { v.Kind, v.At = api.Evicted, never-1 }))))
	is(t, "never deleted 7 never 6b - 0")(joined(event.Text(with(cleared, func(v *api.Event) { v.Kind, v.At = api.Deleted, never }))))
	for i, v := range []api.Event{
		{}, with(expired, func(v *api.Event) { v.At = 19 }), with(replaced, func(v *api.Event) { v.At = 20 }), with(replaced, func(v *api.Event) { v.At = never }), with(replaced, func(v *api.Event) { v.Kind = 0 }),
		with(replaced, func(v *api.Event) { v.Kind = 6 }), with(replaced, func(v *api.Event) { v.Kind = -1 }), with(replaced, func(v *api.Event) { v.Kind = 1 }), with(expired, func(v *api.Event) { v.Kind = 2 }),
		with(replaced, func(v *api.Event) { v.Key = "" }), with(replaced, func(v *api.Event) { v.Key = strings.Repeat("k", 251) }), with(replaced, func(v *api.Event) { v.Birth = 0 }),
		with(replaced, func(v *api.Event) { v.Value = make([]byte, 65537) }), with(expired, func(v *api.Event) { v.Deadline, v.At = never, never }),
	} {
		s, e := event.Text(v)
		if event.Valid(v) || s != "" || e != api.ErrArg {
			t.Error(i, s, e)
		}
		if s, e := event.Write([]api.Event{replaced, v}); s != "" || e != api.ErrArg {
			t.Error(i, s, e)
		}
		x := event.New()
		if e := x.Add(v); e != api.ErrArg || x.Len() != 0 {
			t.Error(i, e)
		}
	}
	for _, v := range []api.Event{replaced, cleared, expired} {
		s, _ := event.Text(v)
		x, e := event.Parse(s)
		if !event.Valid(v) || !event.Equal(v, x) || e != api.OK {
			t.Error(s, x, e)
		}
	}
	for _, s := range []string{
		"", "0 cleared 07 never 6b -", "5 evicted 1 5 6b -", "5 expired 1 6 6b -", "0 Cleared 7 never 6b -", "0  7 never 6b -", "0 cleared", "00 cleared 7 never 6b -", "0 cleared 7 never 6b -\n", "0 cleared 7 never 6b - ",
		"0 cleared 7 never  -", " cleared 7 never 6b -", "0 expired 7 never 6b -", "never expired 7 never 6b -", "x cleared 7 never 6b -", "0 7 never 6b -", "0 cleared 7 never - -", "0 cleared  7 never 6b -", "18446744073709551615 cleared 7 never 6b -",
	} {
		if v, e := event.Parse(s); e != api.ErrFormat || !event.Equal(v, api.Event{}) {
			t.Error(s, v, e)
		}
	}
}

func joined(s string, e api.Errno) string { return fmt.Sprint(s, " ", int(e)) }

func TestEqualWord(t *testing.T) {
	for i, v := range []api.Event{
		with(replaced, func(v *api.Event) { v.Kind = 2 }), with(replaced, func(v *api.Event) { v.Key = "j" }), with(replaced, func(v *api.Event) { v.Value = []byte{1, 3} }), with(replaced, func(v *api.Event) { v.Value = nil }),
		with(replaced, func(v *api.Event) { v.Birth = 2 }), with(replaced, func(v *api.Event) { v.Deadline = 21 }), with(replaced, func(v *api.Event) { v.At = 13 }),
	} {
		if event.Equal(v, replaced) || event.Equal(replaced, v) || !event.Equal(v, v) {
			t.Error(i)
		}
	}
	if !event.Equal(api.Event{Value: []byte{}}, api.Event{}) {
		t.Error("no bytes")
	}
	for k, want := range []string{"", "expired", "evicted", "replaced", "deleted", "cleared", "", ""} {
		if got := event.Word(api.EventKind(k)); got != want {
			t.Error(k, got)
		}
	}
	is(t, "  ")(event.Word(-1), event.Word(1<<40), event.Word(-1<<63))
}

func TestStream(t *testing.T) {
	s := event.New()
	is(t, "0 0")(s.Add(replaced), s.Add(cleared))
	l, e := s.Take(1)
	is(t, "1 true 0 1 1 1 0")(len(l), event.Equal(l[0], replaced), e, s.Len(), s.Count(api.Replaced), s.Count(api.Cleared), s.Count(api.Expired))
	l, e = s.Take(5)
	is(t, "1 true 0 0")(len(l), event.Equal(l[0], cleared), e, s.Len())
	is(t, "[] 0")(s.Take(0))
	is(t, "[] 0")(s.Take(1<<63 - 1))
	is(t, "[] 2")(s.Take(-1))
	is(t, "0 1 1 0 0")(s.Add(cleared), s.Len(), len(s.List()), s.Count(0), s.Count(6))
	is(t, "0 0")(s.Count(-1), s.Count(1<<40))
	for _, s := range []*event.Stream{nil, {}} {
		is(t, "1 [] 0 0 true")(s.Add(api.Event{}), s.List(), s.Len(), s.Count(1), s.Copy() == nil)
		is(t, "[] 1")(s.Take(-1))
	}
}

func TestIndependence(t *testing.T) {
	s := event.New()
	v := with(replaced, func(v *api.Event) { v.Value = []byte{1, 2} })
	_ = s.Add(v)
	_ = s.Add(cleared)
	v.Value[0] = 9
	l := s.List()
	is(t, "true")(event.Equal(l[0], replaced))
	l[0].Value[0] = 9
	c := s.Copy()
	is(t, "2 1 1")(c.Len(), c.Count(api.Replaced), c.Count(api.Cleared))
	x, _ := c.Take(1)
	x[0].Value[0] = 9
	_ = c.Add(expired)
	is(t, "true 2 0 1")(event.Equal(s.List()[0], replaced), s.Len(), s.Count(api.Expired), c.Count(api.Expired))
	_, _ = s.Take(2)
	_ = s.Add(expired)
	is(t, "2 1 2 1")(len(c.List()), len(s.List()), c.Len(), s.Len())
	is(t, "true true")(event.Equal(c.List()[0], cleared), event.Equal(c.List()[1], expired))
}

func TestFull(t *testing.T) {
	s := event.New()
	for range event.MaxEvents {
		if e := s.Add(cleared); e != api.OK {
			t.Fatal(e)
		}
	}
	is(t, "7 2 1048576")(s.Add(cleared), s.Add(api.Event{}), s.Count(api.Cleared))
	_, _ = s.Take(1)
	is(t, "0 7 1048577")(s.Add(cleared), s.Add(cleared), s.Count(api.Cleared))
}

func TestWriteRead(t *testing.T) {
	text, e := event.Write([]api.Event{replaced, cleared, expired})
	if text != "12 replaced 3 20 6b 0102\n0 cleared 7 never 6b -\n20 expired 1 20 6b -\n" || e != api.OK {
		t.Error(text, e)
	}
	l, n, e := event.Read(text)
	if len(l) != 3 || !event.Equal(l[0], replaced) || !event.Equal(l[1], cleared) || !event.Equal(l[2], expired) || n != 0 || e != api.OK {
		t.Error(l, n, e)
	}
	is(t, "[] 0 0")(event.Read(""))
	is(t, " 0")(event.Write(nil))
	is(t, "[] 0 6")(event.Read("0 cleared 7 never 6b -"))
	is(t, "[] 3 6")(event.Read(text + "\n"))
	is(t, "[] 3 6")(event.Read(text + "0 cleared 7 never 6b -"))
	is(t, "[] 1 6")(event.Read("0 cleared 7 never 6b -\nx\ny\n"))
	is(t, "[] 0 6")(event.Read("\n" + text))
	is(t, "[] 0 6")(event.Read(strings.Replace(text, "\n", "\r\n", 1)))
	many := make([]api.Event, event.MaxText+1)
	for i := range many {
		many[i] = cleared
	}
	is(t, " 7")(event.Write(many))
	many[10000].Birth = 0
	is(t, " 2")(event.Write(many))
	text, e = event.Write(many[:10000])
	is(t, "0 230000")(e, len(text))
	l, n, e = event.Read(text)
	is(t, "10000 0 0")(len(l), n, e)
	is(t, "[] 10000 7")(event.Read(text + "0 cleared 7 never 6b -\n"))
	is(t, "[] 9999 6")(event.Read(text[:len(text)-2] + "x\n0 cleared 7 never 6b -\n"))
}
