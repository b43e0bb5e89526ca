package segment_test

import (
	"fmt"
	"testing"

	"cubbyhole/api"
	"cubbyhole/segment"
)

func is(t *testing.T, want string) func(got ...any) {
	return func(got ...any) {
		t.Helper()
		if s := fmt.Sprint(got); s != "["+want+"]" {
			t.Errorf("got %s, want %s", s, want)
		}
	}
}

func both(s *segment.Segments) string {
	return fmt.Sprint(s.List(api.Probation), s.Cost(api.Probation), s.Len(api.Probation), s.List(api.Protected), s.Cost(api.Protected), s.Len(api.Protected))
}

func order(t *testing.T, limit int) *segment.Segments {
	t.Helper()
	s, e := segment.New(limit)
	if e != api.OK {
		t.Fatal(e)
	}
	return s
}

func TestExamples(t *testing.T) {
	s := order(t, 10)
	is(t, "0 0 0")(s.Add(1, 4), s.Add(2, 5), s.Add(3, 3))
	is(t, "[] 0")(s.Use(1, 4))
	is(t, "[] 0")(s.Use(3, 3))
	is(t, "[{2 5}] 5 1 [{1 4} {3 3}] 7 2")(both(s))
	is(t, "[1] 0")(s.Use(2, 5))
	is(t, "[{1 4}] 4 1 [{3 3} {2 5}] 8 2")(both(s))
	is(t, "[3 2] 0")(s.Use(2, 11))
	is(t, "[{1 4} {3 3} {2 11}] 18 3 [] 0 0")(both(s))
	is(t, "0 11 0")(s.Of(2))
	is(t, "[] 0")(s.Use(3, 3))
	is(t, "1 3 0")(s.Of(3))
	is(t, "[3] 0")(s.Limit(2))
	is(t, "[] 0")(s.Limit(-1))
	is(t, "0 9")(s.Remove(1), s.Remove(1))
	is(t, "0 0 9")(s.Of(9))
	is(t, "11 2 0")(s.Add(2, 1), s.Add(5, -1), s.Cost(2))
	if x, e := segment.New(-2); x != nil || e != api.ErrArg {
		t.Error(e)
	}
}

func TestErrors(t *testing.T) {
	for _, s := range []*segment.Segments{nil, {}} {
		is(t, "1 1 1")(s.Add(0, -1), s.Remove(1<<31), s.Renumber(nil))
		is(t, "[] 1")(s.Use(0, 0))
		is(t, "[] 1")(s.Limit(-9))
		is(t, "0 0 1")(s.Of(0))
		is(t, "[] 0 0 [] 0 0 true")(both(s), s.Copy() == nil)
	}
	for _, n := range []int{-2, 1<<40 + 1, -1 << 63} {
		if x, e := segment.New(n); x != nil || e != api.ErrArg {
			t.Error(n, e)
		}
		is(t, "[] 2")(order(t, 5).Limit(n))
	}
	for _, n := range []int{-1, 0, 1 << 40} {
		order(t, n)
		is(t, "[] 0")(order(t, 5).Limit(n))
	}
	s := order(t, 5)
	is(t, "2 2 2 2 2")(s.Add(1<<22, 0), s.Add(1, 1<<40+1), s.Remove(1<<22), s.Add(0, -1), s.Add(1<<32-1, 0))
	is(t, "[] 2")(s.Use(1, -1))
	is(t, "[] 2")(s.Use(1, 1<<40+1))
	is(t, "[] 2")(s.Use(1<<22, 1))
	is(t, "[] 9")(s.Use(1, 1))
	is(t, "0 0 2")(s.Of(1 << 22))
	is(t, "0 0 0 0")(s.Add(1<<22-1, 1<<40), s.Add(4, 0), s.Len(-1), s.Cost(-1))
	is(t, "[] [] 0 0")(s.List(2), s.List(-1), s.Len(2), s.Cost(2))
	is(t, "9 [{4194303 1099511627776} {4 0}] 1099511627776 2 [] 0 0")(s.Remove(7), both(s))
	_, _ = s.Use(4, 0)
	is(t, "11")(s.Add(4, 0))
}

func TestPlain(t *testing.T) {
	s := order(t, -1)
	is(t, "0 0 0")(s.Add(1, 0), s.Add(2, 1), s.Add(3, 0))
	is(t, "[] 0")(s.Use(1, 0))
	is(t, "[{2 1} {3 0} {1 0}] 1 3 [] 0 0")(both(s))
	is(t, "[] 0")(s.Use(2, 7))
	is(t, "[{3 0} {1 0} {2 7}] 7 3 [] 0 0")(both(s))
	s = order(t, 0) // what costs nothing stays protected with the limit 0
	is(t, "0 0")(s.Add(1, 0), s.Add(2, 3))
	is(t, "[] 0")(s.Use(1, 0))
	is(t, "[1 2] 0")(s.Use(2, 3)) // the oldest ones first
	is(t, "[] 0")(s.Use(1, 0))
	is(t, "[{2 3}] 3 1 [{1 0}] 0 1")(both(s))
	is(t, "[1] 0")(s.Limit(-1))
	is(t, "[{2 3} {1 0}] 3 2 [] 0 0")(both(s))
}

func TestLimit(t *testing.T) {
	s := order(t, 100)
	for i := range uint32(5) {
		_ = s.Add(i, 10)
		_, _ = s.Use(i, 10)
	}
	is(t, "[] 0")(s.Limit(50))
	is(t, "[0 1] 0")(s.Limit(39))
	is(t, "[{0 10} {1 10}] 20 2 [{2 10} {3 10} {4 10}] 30 3")(both(s))
	is(t, "[2] 0")(s.Use(3, 25)) // used in protected
	is(t, "[{0 10} {1 10} {2 10}] 30 3 [{4 10} {3 25}] 35 2")(both(s))
	is(t, "0 [{0 10} {1 10} {2 10}] 30 3 [{4 10}] 10 1")(s.Remove(3), both(s))
}

func TestRenumberCopy(t *testing.T) {
	s := order(t, 10)
	for i := range uint32(4) {
		_ = s.Add(i, int(i)+1)
	}
	_, _ = s.Use(0, 1)
	_, _ = s.Use(3, 4)
	is(t, "2 2 2 2")(s.Renumber([]uint32{0, 1, 2}), s.Renumber([]uint32{5, 5, 2, 3}), s.Renumber([]uint32{0, 1, 1 << 22, 3}), s.Renumber(nil))
	is(t, "2")(s.Renumber([]uint32{1, 1, 2, 3})) // one of each segment
	was := "[{1 2} {2 3}] 5 2 [{0 1} {3 4}] 5 2"
	is(t, was)(both(s))
	x := s.Copy()
	is(t, "0")(x.Renumber([]uint32{3, 2, 1, 0, 9}))
	is(t, "[{2 2} {1 3}] 5 2 [{3 1} {0 4}] 5 2")(both(x))
	_ = x.Remove(3)
	_, _ = x.Use(2, 9)
	is(t, was)(both(s))
	_ = x.Renumber([]uint32{7, 8, 9})
	is(t, "[{8 3} {7 4}] 7 2 [{9 9}] 9 1")(both(x))
	_ = x.Add(0, 1)
	is(t, "[] 0")(x.Use(0, 1))
}

func TestModel(t *testing.T) {
	s := order(t, 20)
	costs := map[uint32]int{}
	r := uint32(1)
	limit := 20
	for step := range 4000 {
		r = r*1664525 + 1013904223
		slot, cost := r>>28, int(r>>20&7)
		was := both(s)
		switch {
		case step%50 == 49:
			limit = int(r>>16%30) - 1
			_, _ = s.Limit(limit)
		case step%7 == 0:
			if e := s.Remove(slot); (e == api.OK) != (contains(costs, slot)) {
				t.Fatal(step, e)
			}
			delete(costs, slot)
		case !contains(costs, slot):
			if e := s.Add(slot, cost); e != api.OK {
				t.Fatal(step, e)
			}
			costs[slot] = cost
		default:
			out, e := s.Use(slot, cost)
			costs[slot] = cost
			if e != api.OK {
				t.Fatal(step, e)
			}
			l := s.List(api.Probation)
			for i, d := range out {
				if l[len(l)-len(out)+i].Slot != d {
					t.Fatal(step, was, out, both(s))
				}
			}
		}
		sum := [2]int{}
		seen := map[uint32]bool{}
		for g := range api.Segment(2) {
			for _, w := range s.List(g) {
				if seen[w.Slot] || costs[w.Slot] != w.Cost {
					t.Fatal(step, w)
				}
				seen[w.Slot] = true
				sum[g] += w.Cost
			}
			if s.Cost(g) != sum[g] || s.Len(g) != len(s.List(g)) {
				t.Fatal(step, g)
			}
		}
		if sum[1] > max(limit, 0) || limit < 0 && s.Len(1) > 0 || len(seen) != len(costs) {
			t.Fatal(step, both(s), limit)
		}
	}
}

func contains(m map[uint32]int, k uint32) bool { _, ok := m[k]; return ok }
