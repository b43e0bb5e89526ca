package script_test

import (
	"bytes"
	"fmt"
	"strings"
	"testing"

	"cubbyhole/api"
	"cubbyhole/cache"
	"cubbyhole/config"
	"cubbyhole/cursor"
	"cubbyhole/event"
	"cubbyhole/script"
)

func is(t *testing.T, want string) func(got ...any) {
	return func(got ...any) {
		t.Helper()
		if s := fmt.Sprint(got); s != "["+want+"]" {
			t.Errorf("got %s, want %s", s, want)
		}
	}
}

func equal(a, b []api.Op) bool {
	for i := range min(len(a), len(b)) {
		if !script.Equal(a[i], b[i]) {
			return false
		}
	}
	return len(a) == len(b)
}

func TestParse(t *testing.T) {
	z := []byte{0, 0, 0}
	for i, c := range []struct {
		b    []byte
		want []api.Op
	}{
		{[]byte{1, 1, 97, 2, 120, 121}, []api.Op{{Kind: api.OpSet, Key: "a", Value: []byte("xy")}}},
		{[]byte{242, 5, 33, 98, 0, 0, 9}, []api.Op{{Kind: api.OpSetTTL, Ticks: 20, Key: "b", TTL: 9}}},
		{[]byte{7, 0, 3, 0, 1, 0, 6, 27}, []api.Op{{Kind: api.OpResize, Count: 3, Bytes: 256}, {Kind: api.OpClear}, {Kind: api.OpNext, Ticks: 1}}},
		{nil, nil}, {[]byte{0}, []api.Op{{Kind: api.OpGet}}}, {[]byte{14, 33, 65}, []api.Op{{Kind: api.OpGet, Key: "A"}}}, {[]byte{15, 255}, []api.Op{{Kind: api.OpSet, Key: strings.Repeat("\x00", 31)}}},
		{[]byte{1, 0, 3, 7}, []api.Op{{Kind: api.OpSet, Value: []byte{7, 0, 0}}}}, {[]byte{0xf9, 255, 0xe9, 0xf9, 0, 0xf9}, []api.Op{{Kind: api.OpAdvance, Ticks: 270}, {Kind: api.OpAdvance, Ticks: 14}, {Kind: api.OpAdvance, Ticks: 15}, {Kind: api.OpAdvance, Ticks: 15}}},
		{[]byte{3, 2, 1, 2, 4, 1, 9, 1, 2, 5, 1, 0x80, 8, 10}, []api.Op{{Kind: api.OpPeek, Key: "\x01\x02"}, {Kind: api.OpTouch, Key: "\t", TTL: 258}, {Kind: api.OpDelete, Key: "\x80"}, {Kind: api.OpCompact}, {Kind: api.OpOpen}}},
		{[]byte{11, 200, 12, 9, 1, 0, 13, 63, 12, 1}, []api.Op{{Kind: api.OpNext, Cursor: 200}, {Kind: api.OpSeek, Cursor: 9, Birth: 256}, {Kind: api.OpClose, Cursor: 63}, {Kind: api.OpSeek, Cursor: 1}}},
		{[]byte{7, 255, 255, 1, 2, 3}, []api.Op{{Kind: api.OpResize, Count: 65535, Bytes: 66051}}}, {[]byte{2, 1, 97, 0, 7}, []api.Op{{Kind: api.OpSetTTL, Key: "a", TTL: 7 << 8}}}, {[]byte{7, 1}, []api.Op{{Kind: api.OpResize, Count: 256}}},
	} {
		l, e := script.Parse(c.b)
		if !equal(l, c.want) || e != api.OK {
			t.Error(i, l, e)
		}
		b, e := script.Write(l)
		m, f := script.Parse(b)
		if e != api.OK || f != api.OK || !equal(l, m) || len(b) > len(c.b)+len(z)*100 {
			t.Error(i, b, e)
		}
	}
	l, e := script.Parse(make([]byte, 4097))
	is(t, "[] 5")(l, e)
	l, e = script.Parse(bytes.Repeat([]byte{6}, 4096))
	is(t, "4096 0")(len(l), e)
}

func TestWrite(t *testing.T) {
	k31, k32 := strings.Repeat("k", 31), strings.Repeat("k", 32)
	good := map[string]api.Op{
		"[242 5 1 98 0 0 9]": {Kind: api.OpSetTTL, Ticks: 20, Key: "b", TTL: 9}, "[0 0]": {Kind: api.OpGet}, "[1 1 97 1 7]": {Kind: api.OpSet, Key: "a", Value: []byte{7}}, "[9]": {Kind: api.OpAdvance}, "[249 0]": {Kind: api.OpAdvance, Ticks: 15},
		"[249 255]": {Kind: api.OpAdvance, Ticks: 270}, "[233]": {Kind: api.OpAdvance, Ticks: 14}, "[7 255 255 255 255 255]": {Kind: api.OpResize, Count: 65535, Bytes: 1<<24 - 1}, "[12 255 255 255]": {Kind: api.OpSeek, Cursor: 255, Birth: 65535},
		"[4 1 97 255 255]": {Kind: api.OpTouch, Key: "a", TTL: 65535}, "[6]": {Kind: api.OpClear}, "[8]": {Kind: api.OpCompact}, "[10]": {Kind: api.OpOpen}, "[11 0]": {Kind: api.OpNext}, "[13 1]": {Kind: api.OpClose, Cursor: 1}, "[3 1 97]": {Kind: api.OpPeek, Key: "a"}, "[5 1 97]": {Kind: api.OpDelete, Key: "a"},
	}
	for want, o := range good {
		b, e := script.Write([]api.Op{o})
		if fmt.Sprint(b) != want || e != api.OK || !script.Valid(o) {
			t.Error(want, b, e)
		}
	}
	if !script.Valid(api.Op{Kind: api.OpSet, Key: k31, Value: make([]byte, 255)}) {
		t.Error("greatest")
	}
	for i, o := range []api.Op{
		{}, {Kind: 15}, {Kind: -1}, {Kind: 1 << 40}, {Kind: api.OpGet, Key: k32}, {Kind: api.OpGet, Key: k32 + k32}, {Kind: api.OpAdvance, Ticks: 271}, {Kind: api.OpAdvance, Ticks: 256 + 271}, {Kind: api.OpAdvance, Ticks: api.Never}, {Kind: api.OpSet, Value: make([]byte, 256)}, {Kind: api.OpSet, Value: make([]byte, 70000)},
		{Kind: api.OpTouch, TTL: 65536}, {Kind: api.OpTouch, TTL: api.Never}, {Kind: api.OpResize, Count: -1}, {Kind: api.OpResize, Count: 65536}, {Kind: api.OpResize, Bytes: 1 << 24}, {Kind: api.OpResize, Bytes: -1}, {Kind: api.OpNext, Cursor: -1}, {Kind: api.OpNext, Cursor: 256},
		{Kind: api.OpSeek, Birth: 65536}, {Kind: api.OpSeek, Birth: 1<<64 - 1}, {Kind: api.OpGet, Value: []byte{1}}, {Kind: api.OpSet, TTL: 1}, {Kind: api.OpClear, Key: "a"}, {Kind: api.OpClear, Count: 1}, {Kind: api.OpClear, Bytes: 1}, {Kind: api.OpOpen, Cursor: 1}, {Kind: api.OpNext, Birth: 1}, {Kind: api.OpClear, TTL: 1},
	} {
		b, e := script.Write([]api.Op{{Kind: api.OpClear}, o})
		if b != nil || e != api.ErrArg || script.Valid(o) {
			t.Error(i, b, e)
		}
	}
	l := make([]api.Op, 4097)
	for i := range l {
		l[i].Kind = api.OpClear
	}
	b, e := script.Write(l[:4096])
	is(t, "4096 0")(len(b), e)
	is(t, "[] 5")(script.Write(l))
	l[4096].Kind = 0
	is(t, "[] 2")(script.Write(l))
	is(t, "[] 0")(script.Write(nil))
}

func TestEqualSame(t *testing.T) {
	o := api.Op{Kind: 1, Ticks: 2, Key: "k", Value: []byte{3}, TTL: 4, Count: 5, Bytes: 6, Cursor: 7, Birth: 8}
	r := api.Result{Op: o, At: 9, Err: 10, Hit: true, Value: []byte{11}, Entry: api.Entry{Key: "e", Value: []byte{12}, Deadline: 13, Birth: 14}, Cursor: 15, Events: []api.Event{{Kind: 1}, {Kind: 2}}, Len: 16, Cost: 17}
	for i, f := range []func(r *api.Result){
		func(r *api.Result) { r.Op.Kind = 0 }, func(r *api.Result) { r.Op.Ticks = 0 }, func(r *api.Result) { r.Op.Key = "" }, func(r *api.Result) { r.Op.Value = nil }, func(r *api.Result) { r.Op.Value = []byte{4} }, func(r *api.Result) { r.Op.TTL = 0 }, func(r *api.Result) { r.Op.Count = 0 },
		func(r *api.Result) { r.Op.Bytes = 0 }, func(r *api.Result) { r.Op.Cursor = 0 }, func(r *api.Result) { r.Op.Birth = 0 }, func(r *api.Result) { r.At = 0 }, func(r *api.Result) { r.Err = 0 }, func(r *api.Result) { r.Hit = false }, func(r *api.Result) { r.Value = nil }, func(r *api.Result) { r.Value = []byte{12} },
		func(r *api.Result) { r.Entry.Key = "" }, func(r *api.Result) { r.Entry.Value = nil }, func(r *api.Result) { r.Entry.Deadline = 0 }, func(r *api.Result) { r.Entry.Birth = 0 }, func(r *api.Result) { r.Cursor = 0 }, func(r *api.Result) { r.Events = nil }, func(r *api.Result) { r.Events = r.Events[:1] },
		func(r *api.Result) { r.Events = []api.Event{{Kind: 1}, {Kind: 2, Value: []byte{1}}} }, func(r *api.Result) { r.Len = 0 }, func(r *api.Result) { r.Cost = 0 },
	} {
		x := r
		f(&x)
		if script.Same(x, r) || script.Same(r, x) || !script.Same(x, x) || script.Equal(x.Op, r.Op) != (i >= 10) || script.Differ([]api.Result{r, x}, []api.Result{r, r}) != 1 {
			t.Error(i)
		}
	}
	if !script.Same(api.Result{Value: []byte{}, Events: []api.Event{}}, api.Result{}) || !script.Equal(api.Op{Value: []byte{}}, api.Op{}) {
		t.Error("empty")
	}
	is(t, "-1 1 1 0 -1")(script.Differ([]api.Result{r}, []api.Result{r}), script.Differ([]api.Result{r, r}, []api.Result{r}), script.Differ([]api.Result{r}, []api.Result{r, r}), script.Differ(nil, []api.Result{r}), script.Differ(nil, nil))
}

// lines returns what is important of a trace.
func lines(l []api.Result) string {
	s := ""
	for _, r := range l {
		events, _ := event.Write(r.Events)
		s += fmt.Sprint(r.Op.Kind, " ", r.At, " ", int(r.Err), " ", r.Hit, " ", string(r.Value), " ", r.Entry.Key, r.Entry.Birth, " ", r.Cursor, " ", strings.ReplaceAll(events, "\n", ";"), r.Len, " ", r.Cost, "\n")
	}
	return s
}

func TestRun(t *testing.T) {
	l, e := script.Run(config.Default(), []byte{1, 1, 97, 1, 120, 10, 0, 1, 97, 27, 0, 64, 1, 98})
	if s := lines(l); s != "1 0 0 false  0 0 1 50\n11 0 0 false  0 0 1 50\n3 0 0 true x 0 0 1 50\n12 1 0 false  a1 0 1 50\n3 5 0 false  0 0 1 50\n" || e != api.OK {
		t.Error(s, e)
	}
	l, e = script.Run(api.Config{Count: 1, Bytes: 1000}, []byte{1, 1, 97, 0, 1, 1, 98, 0})
	if s := lines(l); s != "1 0 0 false  0 0 1 49\n1 0 0 false  0 0 0 evicted 1 never 61 -;1 49\n" || e != api.OK {
		t.Error(s, e)
	}
	for want, c := range map[api.Errno]api.Config{240: {}, 241: {Count: 1}, 242: {Count: 1, Bytes: 1, Protected: 100}} {
		l, e := script.Run(c, nil)
		is(t, fmt.Sprint("[] ", int(want)))(l, e)
	}
	l, e = script.Run(api.Config{}, make([]byte, 4097))
	is(t, "[] 5")(l, e)
}

func fresh(t *testing.T) *cursor.Cursors {
	t.Helper()
	c, _ := cache.New(api.Config{Count: 3, Bytes: 1000, Protected: 50})
	s, e := cursor.New(c)
	if e != api.OK {
		t.Fatal(e)
	}
	return s
}

func TestDo(t *testing.T) {
	s := fresh(t)
	trace, e := script.On(s, []api.Op{
		{Kind: api.OpSetTTL, Key: "a", Value: []byte("1"), TTL: 5}, {Kind: api.OpSet, Key: "b", Ticks: 1}, {Kind: api.OpTouch, Key: "b", TTL: 9}, {Kind: api.OpPeek, Key: "b", Ticks: 1}, {Kind: api.OpGet, Key: "a"}, {Kind: api.OpNext, Ticks: 100},
		{Kind: api.OpSeek, Ticks: 2, Cursor: 9, Birth: 3}, {Kind: api.OpClose, Ticks: 1, Cursor: -5}, {Kind: api.OpOpen}, {Kind: api.OpOpen}, {Kind: api.OpNext}, {Kind: api.OpNext}, {Kind: api.OpSeek, Cursor: 1, Birth: 1 << 50}, {Kind: api.OpNext, Cursor: 1, Ticks: 1},
		{Kind: api.OpClose, Cursor: 1}, {Kind: api.OpDelete, Key: "b"}, {Kind: api.OpDelete, Key: "b"}, {Kind: api.OpSet, Key: "c"}, {Kind: api.OpSet, Key: "d"}, {Kind: api.OpResize, Count: 1, Bytes: 99}, {Kind: api.OpResize, Ticks: 7}, {Kind: api.OpCompact, Ticks: 1}, {Kind: api.OpClear}, {Kind: api.OpAdvance, Ticks: api.Never},
		{Kind: api.OpSet, Key: ""}, {Kind: api.OpTouch, Key: "q"}, {Kind: api.OpSetTTL, Key: "q"}, {Kind: api.OpSet, Key: "q", Value: make([]byte, 70000)}, {Kind: api.OpSet, Key: "q", Value: make([]byte, 999)}, {Kind: api.OpPeek, Key: "q", TTL: 7, Count: 8},
	})
	want := `2 0 0 false  0 0 1 50
1 1 0 false  0 0 2 99
5 1 0 true  0 0 2 99
4 2 0 true  b2 0 2 99
3 2 0 true 1 0 0 2 99
12 2 9 false  0 0 2 99
13 4 9 false  0 0 2 99
14 5 9 false  0 0 5 expired 1 5 61 31;1 49
11 5 0 false  0 0 1 49
11 5 0 false  0 1 1 49
12 5 0 false  b2 0 1 49
12 5 14 false  0 0 1 49
13 5 0 false  0 0 1 49
12 6 14 false  0 0 1 49
14 6 0 false  0 0 1 49
6 6 0 true  0 0 6 deleted 2 10 62 -;0 0
6 6 0 false  0 0 0 0
1 6 0 false  0 0 1 49
1 6 0 false  0 0 2 98
8 6 0 false  0 0 6 evicted 3 never 63 -;1 49
8 6 240 false  0 0 1 49
9 7 0 false  0 0 1 49
7 7 0 false  0 0 7 cleared 4 never 64 -;0 0
10 18446744073709551615 0 false  0 0 0 0
1 18446744073709551615 2 false  0 0 0 0
5 18446744073709551615 2 false  0 0 0 0
2 18446744073709551615 2 false  0 0 0 0
1 18446744073709551615 5 false  0 0 0 0
1 18446744073709551615 12 false  0 0 0 0
4 18446744073709551615 0 false  0 0 0 0
`
	if got := lines(trace); got != want || e != api.OK {
		t.Errorf("%d\n%s", e, got)
	}
	if o := trace[29].Op; !script.Equal(o, api.Op{Kind: api.OpPeek, Key: "q", TTL: 7, Count: 8}) {
		t.Error(o)
	}
	for _, s := range []*cursor.Cursors{nil, {}} {
		r, e := script.Do(s, api.Op{})
		l, f := script.On(s, make([]api.Op, 5000))
		is(t, "true 1 [] 1")(script.Same(r, api.Result{}), e, l, f)
	}
	for _, k := range []api.OpKind{0, 15, -1} {
		r, e := script.Do(s, api.Op{Kind: k, Ticks: 1})
		l, f := script.On(s, append(make([]api.Op, 5000), api.Op{Kind: k}))
		is(t, "true 2 [] 2")(script.Same(r, api.Result{}), e, l, f)
	}
	s = fresh(t)
	many := make([]api.Op, 4097)
	for i := range many {
		many[i] = api.Op{Kind: api.OpAdvance, Ticks: 1}
	}
	l, e := script.On(s, many)
	is(t, "[] 7 0")(l, e, s.Cache().Now())
	l, e = script.On(s, many[1:])
	is(t, "4096 0 4096")(len(l), e, s.Cache().Now())
	many[4096].Kind = 0
	l, e = script.On(s, many)
	is(t, "[] 2 4096")(l, e, s.Cache().Now())
	_ = s.Cache().Set(5000, "k", nil) // an event of before is drained, too
	_, _ = s.Cache().Delete(5000, "k")
	r, _ := script.Do(s, api.Op{Kind: api.OpCompact})
	is(t, "1 5000")(len(r.Events), r.At)
	v := []byte{1}
	r, _ = script.Do(s, api.Op{Kind: api.OpSet, Key: "k", Value: v})
	v[0] = 2
	is(t, "[1]")(r.Op.Value)
}

func TestSeeds(t *testing.T) {
	r := uint32(6)
	for range 30 {
		b := make([]byte, 600)
		for i := range b {
			r = r*1664525 + 1013904223
			b[i] = byte(r >> 24)
			if i%5 > 1 {
				b[i] &= 19
			}
		}
		c := api.Config{Count: 5, Bytes: 400, Protected: 40}
		one, e := script.Run(c, b)
		c.Seed = 1 << 60
		two, f := script.Run(c, b)
		c.Same = true
		three, g := script.Run(c, b)
		if e != api.OK || f != api.OK || g != api.OK || script.Differ(one, two) != -1 || script.Differ(one, three) != -1 {
			t.Error(e, f, g)
		}
		l, _ := script.Parse(b)
		w, e := script.Write(l)
		m, _ := script.Parse(w)
		if e != api.OK || !equal(l, m) || len(w) > len(b)+300 {
			t.Error(e)
		}
		s := fresh(t)
		half, _ := script.On(s, l[:len(l)/2])
		rest, _ := script.On(s, l[len(l)/2:])
		all, _ := script.On(fresh(t), l)
		if script.Differ(append(half, rest...), all) != -1 {
			t.Error("two parts")
		}
	}
}
