package snap_test

import (
	"bytes"
	"fmt"
	"strconv"
	"testing"

	"cubbyhole/api"
	"cubbyhole/cache"
	"cubbyhole/snap"
)

func is(t *testing.T, want string) func(got ...any) {
	return func(got ...any) {
		t.Helper()
		if s := fmt.Sprint(got); s != "["+want+"]" {
			t.Errorf("got %s, want %s", s, want)
		}
	}
}

// around returns the snapshot with a body.
func around(body ...byte) []byte {
	sum := uint32(5381)
	for _, b := range body {
		sum = 33*sum ^ uint32(b)
	}
	return append(append([]byte{67, 66, 72, 1}, body...), byte(sum>>24), byte(sum>>16), byte(sum>>8), byte(sum))
}

func newCache(t *testing.T) *cache.Cache {
	t.Helper()
	c, e := cache.New(api.Config{Count: 1, Bytes: 100, Seed: 300})
	if e != api.OK {
		t.Fatal(e)
	}
	return c
}

func TestExamples(t *testing.T) {
	c := newCache(t)
	is(t, fmt.Sprint(around(1, 100, 0, 172, 2, 0, 0, 0, 0, 0, 0, 0), 0))(snap.Save(c))
	_ = c.Set(5, "a", []byte("B"))
	is(t, fmt.Sprint(around(1, 100, 0, 172, 2, 0, 5, 1, 1, 1, 97, 1, 66, 255, 255, 255, 255, 255, 255, 255, 255, 255, 1, 1, 1, 1, 0, 0), 0))(snap.Save(c))
	for i, b := range [][]byte{nil, {67, 66, 72, 1, 0, 0, 21, 5}, {67, 66, 72, 2, 0, 0, 21, 5}, {67, 66, 72, 1, 0, 0, 21, 6}} {
		want := []api.Errno{4, 6, 6, 10}[i]
		s, e := snap.Read(b)
		x, f := snap.Load(b)
		is(t, fmt.Sprint(api.CacheState{}, true, int(want), int(want)))(s, x == nil, e, f)
	}
}

// state is a state with all parts.
func state() api.CacheState {
	return api.CacheState{
		Config: api.Config{Count: 4, Bytes: 1000, Protected: 50, Seed: 1<<64 - 1, Same: true}, Now: 300, Births: 1 << 63,
		Entries:   []api.Entry{{Key: "\x00", Value: []byte{0, 1, 255}, Deadline: api.Never, Birth: 2}, {Key: "bb", Deadline: 301, Birth: 200}},
		Probation: []uint64{200}, Protected: []uint64{2},
		Events: []api.Event{{Kind: api.Expired, Key: "e", Value: []byte("x"), Birth: 7, Deadline: 3, At: 4}, {Kind: api.Replaced, Key: "bb", Value: bytes.Repeat([]byte{9}, 200), Birth: 200, Deadline: api.Never, At: 300}},
	}
}

// pieces returns the bytes of all fields of state.
func pieces() []byte {
	w := bytes.Join([][]byte{
		{4, 232, 7, 50, 255, 255, 255, 255, 255, 255, 255, 255, 255, 1, 1, 172, 2, 128, 128, 128, 128, 128, 128, 128, 128, 128, 1},
		{2, 1, 0, 3, 0, 1, 255, 255, 255, 255, 255, 255, 255, 255, 255, 255, 1, 2, 2, 98, 98, 0, 173, 2, 200, 1},
		{1, 200, 1, 1, 2},
		{2, 1, 1, 101, 1, 120, 7, 3, 4, 3, 2, 98, 98, 200, 1}, bytes.Repeat([]byte{9}, 200), {200, 1, 255, 255, 255, 255, 255, 255, 255, 255, 255, 1, 172, 2},
	}, nil)
	return w
}

func TestFields(t *testing.T) {
	is(t, fmt.Sprint(around(pieces()...), 0))(snap.Write(state()))
	s, e := snap.Read(around(pieces()...))
	is(t, fmt.Sprint(state(), 0))(s, e)
	in := around(pieces()...)
	s, _ = snap.Read(in)
	for i := range in {
		in[i] = 77
	}
	is(t, fmt.Sprint(state()))(s)
}

func TestErrors(t *testing.T) {
	for _, c := range []*cache.Cache{nil, {}} {
		is(t, "[] 1")(snap.Save(c))
	}
	s := state()
	s.Config.Count = 1
	is(t, "[] 2")(snap.Write(s))
	is(t, "[] 2")(snap.Write(api.CacheState{}))
	for n := range 8 {
		_, e := snap.Read([]byte{67, 66, 72, 1, 0, 0, 21, 5}[:n])
		is(t, "4")(e)
	}
	for i := range 4 {
		b := around(pieces()...)
		b[i]++
		_, e := snap.Read(b)
		is(t, "6")(e)
	}
	b := around(pieces()...)
	b[len(b)-1]++
	_, e := snap.Read(b)
	is(t, "10")(e)
	b = around(pieces()...)
	b[9]++
	_, e = snap.Read(b)
	is(t, "10")(e)
	long := make([]byte, 1<<24+1)
	_, e = snap.Read(long)
	_, f := snap.Load(long)
	_, g := snap.Read(long[1:])
	is(t, "5 5 6")(e, f, g)
}

func TestBodies(t *testing.T) {
	good := []byte{1, 100, 0, 0, 0, 0, 0, 0, 0, 0, 0}
	_, e := snap.Read(around(good...))
	is(t, "0")(e)
	for i := range good {
		_, e := snap.Read(around(good[:i]...))
		is(t, "6")(e)
	}
	with := func(i int, p ...byte) []byte {
		return bytes.Join([][]byte{good[:i], p, good[i+1:]}, nil)
	}
	huge := []byte{255, 255, 255, 255, 255, 255, 255, 255, 255, 1}
	for i, c := range []struct {
		body []byte
		want api.Errno
	}{
		{append(bytes.Clone(good), 0), 6}, {with(0, 129, 0), 6}, {with(0, 128, 0), 6}, {with(0, huge...), 6}, {with(1, huge...), 6}, {with(2, huge...), 6}, {with(0, 255, 255, 255, 255, 255, 255, 255, 255, 127), 8}, {with(3, huge...), 0}, {with(5, huge...), 0}, {with(6, huge...), 0},
		{with(3, 255, 255, 255, 255, 255, 255, 255, 255, 255, 2), 6}, {with(3, 255, 255, 255, 255, 255, 255, 255, 255, 255, 129, 0), 6}, {with(3, 128, 128, 128, 128, 128, 128, 128, 128, 128, 128, 1), 6}, {with(4, 2), 6}, {with(4, 1), 0}, {with(4, 129, 0), 6}, {with(0, 0), 8}, {with(2, 100), 8},
		{with(7, 1), 6}, {with(7, huge...), 6}, {with(7, 255, 255, 255, 255, 255, 255, 255, 255, 127), 6}, {with(8, 255, 255, 255, 255, 127), 6}, {with(10, 1), 6}, {with(7, 1, 1, 97, 0, 9, 1), 8}, {with(7, 1, 255, 255, 255, 255, 127, 97, 0, 9, 1), 6}, {with(8, 1, 1), 8},
		{[]byte{1, 100, 0, 0, 0, 0, 1, 1, 1, 97, 0, 9, 1, 1, 1, 0, 0}, 0}, {[]byte{1, 100, 0, 0, 0, 0, 1, 0, 0, 0, 1, 9, 1, 97, 0, 1, 9, 0}, 8}, {[]byte{1, 100, 0, 0, 0, 0, 1, 0, 0, 0, 1, 4, 1, 97, 0, 1, 9, 0}, 0},
		{append([]byte{1, 100, 0, 0, 0, 0, 1, 0, 0, 0, 1}, append(bytes.Clone(huge), 1, 97, 0, 1, 9, 0)...), 6},
	} {
		s, e := snap.Read(around(c.body...))
		x, f := snap.Load(around(c.body...))
		if e != c.want || f != c.want || c.want != api.OK && (fmt.Sprint(s) != fmt.Sprint(api.CacheState{}) || x != nil) {
			t.Error(i, e, f)
		}
		if e == api.OK {
			b, g := snap.Write(s)
			if !bytes.Equal(b, around(c.body...)) || g != api.OK || fmt.Sprint(x.State()) != fmt.Sprint(s) {
				t.Error(i, g)
			}
		}
	}
}

func TestLong(t *testing.T) {
	c, _ := cache.New(api.Config{Count: 1000, Bytes: 1 << 30})
	for i := range 256 {
		_ = c.Set(0, strconv.Itoa(i+1000), make([]byte, 65536))
	}
	is(t, "[] 5")(snap.Save(c))
	_, _ = c.Delete(0, "1000")
	c.Drain()
	b, e := snap.Save(c)
	is(t, "true 0")(len(b) < 1<<24 && len(b) > 255<<16, e)
	x, e := snap.Load(b)
	is(t, "255 0")(x.Len(), e)
}

func TestGoesOn(t *testing.T) {
	c, _ := cache.New(api.Config{Count: 5, Bytes: 400, Protected: 50})
	r := uint32(7)
	for step := range 1500 {
		r = r*1664525 + 1013904223
		key := strconv.Itoa(int(r >> 29))
		at := api.Time(step / 3)
		b, e := snap.Save(c)
		d, f := snap.Load(b)
		if e != api.OK || f != api.OK || fmt.Sprint(d.State()) != fmt.Sprint(c.State()) {
			t.Fatal(step, e, f)
		}
		for _, x := range []*cache.Cache{c, d} {
			switch r >> 20 % 5 {
			case 0:
				_ = x.Set(at, key, make([]byte, r>>8%50))
			case 1:
				_ = x.SetTTL(at, key, nil, api.Time(r>>8%9+1))
			case 2:
				_, _ = x.Delete(at, key)
			case 3:
				_, _, _ = x.Get(at, key)
			default:
				_ = x.Resize(at, int(r>>12%6+1), int(r>>8%300+100))
			}
		}
		if fmt.Sprint(d.State()) != fmt.Sprint(c.State()) {
			t.Fatal(step)
		}
		if step%50 == 0 {
			c.Drain()
		}
	}
}

// TestLongest has just as many bytes as a snapshot may have, and one more.
func TestLongest(t *testing.T) {
	s := api.CacheState{Config: api.Config{Count: 1000, Bytes: 1 << 30}, Births: 1000}
	for i := range 256 {
		s.Entries = append(s.Entries, api.Entry{Key: strconv.Itoa(i + 1000), Value: make([]byte, 65000), Deadline: 1, Birth: uint64(i + 1)})
		s.Probation = append(s.Probation, uint64(i+1))
	}
	b, e := snap.Write(s)
	more := 1<<24 - len(b)
	for i := range s.Entries {
		n := min(more, 536)
		s.Entries[i].Value = make([]byte, 65000+n)
		more -= n
	}
	b, f := snap.Write(s)
	is(t, "0 0 0 16777216")(e, more, f, len(b))
	x, g := snap.Read(b)
	is(t, "256 0")(len(x.Entries), g)
	s.Entries[255].Value = append(s.Entries[255].Value, 0)
	is(t, "[] 5")(snap.Write(s))
}
