package probe_test

import (
	"fmt"
	"slices"
	"testing"

	"cubbyhole/api"
	"cubbyhole/probe"
)

func TestValid(t *testing.T) {
	for i := range 21 {
		if !probe.Valid(1 << i) {
			t.Error(i)
		}
		if i > 1 && probe.Valid(1<<i-1) || i > 0 && probe.Valid(1<<i+1) {
			t.Error(i)
		}
	}
	for _, n := range []int{0, -1, 6, 3, 1 << 21, -1 << 63, 1 << 62, 1<<63 - 1, -2} {
		if probe.Valid(n) {
			t.Error(n)
		}
		if x, e := probe.At(1, n, -1); x != 0 || e != api.ErrArg {
			t.Error(n, x, e)
		}
		if x, e := probe.Index(1, n, -1); x != 0 || e != api.ErrArg {
			t.Error(n, x, e)
		}
		s, e := probe.All(1, n)
		if e != api.ErrArg || s == nil || len(slices.Collect(s)) != 0 {
			t.Error(n, e)
		}
	}
}

func TestSequence(t *testing.T) {
	s, e := probe.All(3, 8)
	if got := fmt.Sprint(slices.Collect(s)); got != "[3 4 6 1 5 2 0 7]" || e != api.OK {
		t.Error(got, e)
	}
	for range s {
		break
	}
	if got := fmt.Sprint(slices.Collect(s)); got != "[3 4 6 1 5 2 0 7]" {
		t.Error(got)
	}
	for _, n := range []int{1, 2, 4, 8, 64, 1 << 12} {
		for _, part := range []uint64{0, 1, 3, 11, 1<<64 - 1, 1 << 63, 0x123456789abcdef} {
			s, e := probe.All(part, n)
			l := slices.Collect(s)
			if e != api.OK || len(l) != n {
				t.Fatal(n, part, len(l), e)
			}
			seen := make([]bool, n)
			at := part
			for i, g := range l {
				at += uint64(i)
				if g != int(at%uint64(n)) || seen[g] {
					t.Fatal(n, part, i, g)
				}
				seen[g] = true
				if x, e := probe.At(part, n, i); x != g || e != api.OK {
					t.Fatal(x, e)
				}
				if n < 100 {
					if x, e := probe.Index(part, n, g); x != i || e != api.OK {
						t.Fatal(x, e)
					}
				}
			}
			for _, i := range []int{-1, n, n + 1, 1<<63 - 1, -1 << 63} {
				x, e := probe.At(part, n, i)
				y, f := probe.Index(part, n, i)
				if x != 0 || e != api.ErrRange || y != 0 || f != api.ErrRange {
					t.Error(n, i, x, e, y, f)
				}
			}
		}
	}
}

func TestExamples(t *testing.T) {
	for _, c := range []struct {
		part   uint64
		index  int
		want   int
		groups int
	}{{3, 0, 3, 8}, {3, 3, 1, 8}, {11, 3, 1, 8}, {9, 0, 0, 1}, {0, 1<<20 - 1, 1 << 19, 1 << 20}} {
		if x, e := probe.At(c.part, c.groups, c.index); x != c.want || e != api.OK {
			t.Error(c, x, e)
		}
		if x, e := probe.Index(c.part, c.groups, c.want); x != c.index || e != api.OK {
			t.Error(c, x, e)
		}
	}
}
