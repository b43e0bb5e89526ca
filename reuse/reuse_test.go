package reuse_test

import (
	"fmt"
	"slices"
	"testing"

	"cubbyhole/api"
	"cubbyhole/reuse"
)

func is(t *testing.T, want string) func(got ...any) {
	return func(got ...any) {
		t.Helper()
		if s := fmt.Sprint(got); s != "["+want+"]" {
			t.Errorf("got %s, want %s", s, want)
		}
	}
}

func TestExamples(t *testing.T) {
	l := []uint32{1, 2, 3, 1, 1, 3, 2, 4, 1}
	is(t, "[-1 -1 -1 2 0 1 2 -1 3] 0")(reuse.Distances(l))
	is(t, "[0 1 2 4 5] 0")(reuse.Hits(l))
	for hits, want := range map[int]string{0: "0 0", 1: "1 0", 2: "2 0", 3: "3 0", 4: "3 0", 5: "4 0", 6: "0 9", -1: "0 2", 1 << 62: "0 9", -1 << 63: "0 2"} {
		is(t, want)(reuse.Least(l, hits))
	}
	is(t, "[1 4 2 3] 0")(reuse.Stack(l))
	is(t, "[1 2 3 1 1 3 2 4 1]")(l)
}

func TestEnds(t *testing.T) {
	long := make([]uint32, 4097)
	is(t, "[] 5")(reuse.Distances(long))
	is(t, "[] 5")(reuse.Hits(long))
	is(t, "0 5")(reuse.Least(long, -1))
	is(t, "[] 5")(reuse.Stack(long))
	is(t, "[] 0")(reuse.Distances(nil))
	is(t, "[0] 0")(reuse.Hits(nil))
	is(t, "0 0")(reuse.Least(nil, 0))
	is(t, "0 9")(reuse.Least(nil, 1))
	is(t, "[] 0")(reuse.Stack(nil))
	is(t, "[0 4095] 0")(reuse.Hits(long[1:]))
	is(t, "[0 4294967295] 0")(reuse.Stack([]uint32{1<<32 - 1, 0}))
	for i := range long {
		long[i] = uint32(i) << 20
	}
	l, e := reuse.Hits(long[1:])
	is(t, "4097 0 0")(len(l), l[4096], e)
}

func TestModel(t *testing.T) {
	r := uint32(3)
	for round := range 60 {
		l := make([]uint32, 100)
		for i := range l {
			r = r*1664525 + 1013904223
			l[i] = r >> 16 % uint32(round+1)
		}
		d, e := reuse.Distances(l)
		hits, f := reuse.Hits(l)
		if e != api.OK || f != api.OK {
			t.Fatal(e, f)
		}
		for size := range len(hits) {
			var list []uint32
			n := 0
			for i, key := range l {
				at := slices.Index(list, key)
				if at >= 0 {
					n++
					list = slices.Delete(list, at, at+1)
				}
				if (at >= 0) != (d[i] >= 0 && d[i] < size) {
					t.Fatal(round, size, i)
				}
				list = append(list, key)
				if len(list) > size {
					list = list[1:]
				}
			}
			if n != hits[size] {
				t.Fatal(round, size, n, hits[size])
			}
			if size == len(hits)-1 {
				slices.Reverse(list)
				is(t, fmt.Sprint(list, 0))(reuse.Stack(l))
				is(t, fmt.Sprint(len(l)-len(list)))(n)
			}
		}
	}
}
