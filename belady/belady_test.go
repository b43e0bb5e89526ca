package belady_test

import (
	"fmt"
	"slices"
	"testing"

	"cubbyhole/api"
	"cubbyhole/belady"
)

func is(t *testing.T, want string) func(got ...any) {
	return func(got ...any) {
		t.Helper()
		if s := fmt.Sprint(got); s != "["+want+"]" {
			t.Errorf("got %s, want %s", s, want)
		}
	}
}

func of(l ...uint32) []uint32 { return l }

var trace = of(1, 2, 3, 1, 4, 2, 1, 3)

func TestExamples(t *testing.T) {
	is(t, "[3 5 7 6 8 8 8 8] 0")(belady.Next(trace))
	turns, e := belady.Turns(trace, 2)
	is(t, "[{false false 0} {false false 0} {false true 2} {true false 0} {false true 3} {false true 4} {true false 0} {false true 1}] 0")(turns, e)
	for size, want := range []int{0, 0, 2, 3, 4, 4} {
		if size > 0 {
			is(t, fmt.Sprint(want, 0))(belady.Hits(trace, size))
			is(t, fmt.Sprint(want, 0))(belady.Best(trace, size))
		}
	}
	is(t, "2 0")(belady.Check(trace, 2, turns))
	is(t, "0 10")(belady.Check(trace, 1, turns))
	is(t, "0 2")(belady.Check(trace, 2, nil))
	is(t, "2 0")(belady.Check(trace, 3, turns))
	is(t, "[0 0 0 0]")(make([]int, 4)) // nothing is changed
	is(t, "[1 2 3 1 4 2 1 3]")(trace)
}

func TestErrors(t *testing.T) {
	long := make([]uint32, 4097)
	l, e := belady.Next(long)
	is(t, "[] 5")(l, e)
	for _, size := range []int{0, -1, 1025, 1 << 40} {
		for want, x := range map[api.Errno][]uint32{api.ErrLong: long, api.ErrArg: trace} {
			a, e := belady.Turns(x, size)
			b, f := belady.Hits(x, size)
			c, g := belady.Best(x, size)
			d, h := belady.Check(x, size, nil)
			if a != nil || b != 0 || c != 0 || d != 0 || e != want || f != want || g != want || h != want {
				t.Error(size, e, f, g, h)
			}
		}
	}
	is(t, "4095 0")(belady.Hits(long[1:], 1024))
	is(t, "0 5")(belady.Best(long[:15], 1))
	is(t, "13 0")(belady.Best(long[:14], 1024))
	is(t, "0 2")(belady.Check(trace, 1, make([]api.Turn, 9)))
	is(t, "0 0")(belady.Check(nil, 1, nil))
	is(t, "0 0")(belady.Best(nil, 1))
	is(t, "[] 0")(belady.Turns(nil, 1))
	is(t, "[] 0")(belady.Next(nil))
}

func TestCheck(t *testing.T) {
	miss, hit := api.Turn{}, api.Turn{Hit: true}
	out := func(k uint32) api.Turn { return api.Turn{Left: true, Out: k} }
	for i, c := range []struct {
		trace []uint32
		size  int
		turns []api.Turn
		want  string
	}{
		{of(1, 1), 1, []api.Turn{miss, hit}, "1 0"}, {of(1, 1), 1, []api.Turn{miss, miss}, "0 10"}, {of(1, 2), 2, []api.Turn{miss, hit}, "0 10"}, {of(1, 2), 1, []api.Turn{miss, miss}, "0 10"}, {of(1, 2), 1, []api.Turn{miss, out(1)}, "0 0"},
		{of(1, 2), 1, []api.Turn{miss, out(2)}, "0 10"}, {of(1, 2), 1, []api.Turn{miss, out(3)}, "0 10"}, {of(1, 2, 1), 2, []api.Turn{miss, out(1), miss}, "0 0"}, {of(1, 2, 1), 2, []api.Turn{miss, out(1), hit}, "0 10"}, {of(1, 1), 1, []api.Turn{miss, {Hit: true, Left: true, Out: 1}}, "0 10"},
		{of(1, 1), 1, []api.Turn{miss, {Hit: true, Out: 1}}, "0 10"}, {of(1), 1, []api.Turn{{Out: 5}}, "0 10"}, {of(1), 1, []api.Turn{{Left: true}}, "0 10"}, {of(0, 1), 1, []api.Turn{miss, {Left: true}}, "0 0"}, {of(1, 2, 3), 2, []api.Turn{miss, miss, out(1)}, "0 0"}, {of(1), 1, []api.Turn{out(1)}, "0 10"},
	} {
		n, e := belady.Check(c.trace, c.size, c.turns)
		if s := fmt.Sprint(n, int(e)); s != c.want {
			t.Error(i, s)
		}
	}
}

// TestSmallest looks at which one leaves of several keys without a next request.
func TestSmallest(t *testing.T) {
	turns, _ := belady.Turns(of(9, 5, 7, 1, 7, 2), 3)
	is(t, "[{false false 0} {false false 0} {false false 0} {false true 5} {true false 0} {false true 1}]")(turns)
}

func TestBest(t *testing.T) {
	r := uint32(3)
	for round := range 300 {
		l := make([]uint32, r>>28%15)
		for i := range l {
			r = r*1664525 + 1013904223
			l[i] = r >> 16 % uint32(round%6+1) * 77
		}
		r = r*1664525 + 1013904223
		before := -1
		keys := len(slices.Compact(slices.Sorted(slices.Values(l))))
		for size := 1; size < 8; size++ {
			hits, e := belady.Hits(l, size)
			best, f := belady.Best(l, size)
			turns, g := belady.Turns(l, size)
			n, h := belady.Check(l, size, turns)
			if hits != best || n != hits || hits < before || e != api.OK || f != api.OK || g != api.OK || h != api.OK || size >= keys && hits != len(l)-keys {
				t.Fatal(l, size, hits, best, n)
			}
			before = hits
		}
	}
}
