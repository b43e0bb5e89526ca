package cascade_test

import (
	"cmp"
	"fmt"
	"slices"
	"testing"

	"cubbyhole/api"
	"cubbyhole/cascade"
)

func is(t *testing.T, want string) func(got ...any) {
	return func(got ...any) {
		t.Helper()
		if s := fmt.Sprint(got); s != "["+want+"]" {
			t.Errorf("got %s, want %s", s, want)
		}
	}
}

const never = api.Never

func of(slot uint32, deadline api.Time, birth uint64) api.Timed {
	return api.Timed{Slot: slot, Deadline: deadline, Birth: birth}
}

func TestExamples(t *testing.T) {
	c := cascade.New(250)
	is(t, "0 0 0 0")(c.Schedule(of(1, 255, 1)), c.Schedule(of(2, 256, 2)), c.Schedule(of(3, 300, 3)), c.Schedule(of(4, 70000, 4)))
	is(t, "0 255 0")(c.Where(1))
	is(t, "1 1 0")(c.Where(3))
	is(t, "2 1 0")(c.Where(4))
	is(t, "[{1 255 1}] 0")(c.Advance(255))
	is(t, "1 1 0")(c.Where(3))
	is(t, "[{2 256 2}] 0")(c.Advance(256))
	is(t, "0 44 0")(c.Where(3))
	is(t, "300 256 2")(c.Next(), c.Now(), c.Len())
	is(t, "0 2 3 11")(c.Reschedule(4, 300), c.Schedule(of(5, 300, 0)), c.Schedule(of(5, 256, 9)), c.Schedule(of(5, 300, 3)))
	is(t, "[{3 300 3} {4 300 4}] 0")(c.Advance(1000))
	is(t, "0")(c.Len())
	is(t, "2 0")(c.Schedule(of(7, never, 9)), c.Schedule(of(7, never-1, 9)))
	is(t, "7 255 0")(c.Where(7))
	is(t, "[] 3")(c.Advance(999))
	is(t, "[{7 18446744073709551614 9}] 0")(c.Advance(never))
	is(t, "3")(c.Schedule(of(1, never-1, 1)))
}

func TestErrors(t *testing.T) {
	for _, c := range []*cascade.Cascade{nil, {}} {
		is(t, "1 1")(c.Schedule(of(1<<31, 0, 0)), c.Reschedule(1<<31, never))
		is(t, "{0 0 0} 1")(c.Cancel(0))
		is(t, "{0 0 0} 1")(c.Get(0))
		is(t, "[] 1")(c.Advance(0))
		is(t, "0 0 1")(c.Where(0))
		is(t, "18446744073709551615 0 0 true")(c.Next(), c.Now(), c.Len(), c.Copy() == nil)
	}
	c := cascade.New(10)
	for _, slot := range []uint32{1 << 22, 1<<32 - 1} {
		is(t, "2 2")(c.Schedule(of(slot, 1, 1)), c.Reschedule(slot, 1))
		is(t, "{0 0 0} 2")(c.Cancel(slot))
		is(t, "{0 0 0} 2")(c.Get(slot))
		is(t, "0 0 2")(c.Where(slot))
	}
	is(t, "2 2 3 3")(c.Schedule(of(1, never, 1)), c.Schedule(of(1, 5, 0)), c.Schedule(of(1, 10, 1)), c.Schedule(of(1, 9, 1)))
	is(t, "2 3 3 9")(c.Reschedule(1, never), c.Reschedule(1, 10), c.Reschedule(1, 0), c.Reschedule(1, 11))
	is(t, "{0 0 0} 9")(c.Cancel(1))
	is(t, "{0 0 0} 9")(c.Get(1))
	is(t, "0 0 9")(c.Where(1))
	is(t, "0 11 11 11 3")(c.Schedule(of(1<<22-1, 11, 5)), c.Schedule(of(1<<22-1, 12, 6)), c.Schedule(of(1, 12, 5)), c.Schedule(of(1<<22-1, 11, 5)), c.Schedule(of(1<<22-1, 10, 5)))
	is(t, "{4194303 11 5} 0")(c.Get(1<<22 - 1))
	is(t, "[] 0")(c.Advance(10))
	is(t, "{4194303 11 5} 0")(c.Cancel(1<<22 - 1))
	is(t, "0 18446744073709551615 10 0")(c.Len(), c.Next(), c.Now(), c.Schedule(of(1<<22-1, 11, 5)))
	x := c.Copy()
	is(t, "[{4194303 11 5}] 0")(x.Advance(11))
	is(t, "0 1 11 10 0 11")(x.Len(), c.Len(), x.Now(), c.Now(), x.Schedule(of(1, 12, 5)), c.Schedule(of(1, 12, 5)))
}

func TestOrder(t *testing.T) {
	c := cascade.New(0)
	for i, x := range []api.Timed{of(1, 500, 9), of(2, 500, 3), of(3, 7, 8), of(4, 1<<40, 1), of(5, 500, 4), of(6, 499, 7)} {
		if e := c.Schedule(x); e != api.OK {
			t.Error(i, e)
		}
	}
	is(t, "[{3 7 8} {6 499 7} {2 500 3} {5 500 4} {1 500 9}] 0")(c.Advance(1 << 39))
	is(t, "[] 0")(c.Advance(1<<40 - 1))
	is(t, "[{4 1099511627776 1}] 0")(c.Advance(1<<40 + 5))
}

// TestModel compares timing wheels with a list; the second one is advanced only now and then.
func TestModel(t *testing.T) {
	r := uint64(4)
	next := func(n uint64) uint64 { r = r*6364136223846793005 + 1442695040888963407; return r >> 33 % n }
	for round := range 6 {
		c := cascade.New(0)
		late := c.Copy()
		var sum, lateSum []api.Timed
		model := map[uint32]api.Timed{}
		now, birth := api.Time(0), uint64(0)
		for step := range 1500 {
			slot := uint32(next(40))
			deadline := now + 1 + api.Time(next(1<<(next(uint64(round)*8+6)+1)))
			switch op := next(5); {
			case op < 2:
				birth++
				e := c.Schedule(of(slot, deadline, birth))
				if _, ok := model[slot]; ok != (e == api.ErrBusy) {
					t.Fatal(step, e)
				} else if !ok {
					model[slot] = of(slot, deadline, birth)
				}
				if late.Schedule(of(slot, deadline, birth)) != e {
					late.Advance(now) // it has kept what is due
					late = c.Copy()
					lateSum = slices.Clone(sum)
				}
			case op == 2:
				x, e := c.Cancel(slot)
				if want, ok := model[slot]; ok != (e == api.OK) || want != x {
					t.Fatal(step, x, e)
				}
				delete(model, slot)
				late, lateSum = c.Copy(), slices.Clone(sum)
			case op == 3:
				e := c.Reschedule(slot, deadline)
				if x, ok := model[slot]; ok != (e == api.OK) {
					t.Fatal(step, e)
				} else if ok {
					x.Deadline = deadline
					model[slot] = x
				}
				late, lateSum = c.Copy(), slices.Clone(sum)
			default:
				to := now + api.Time(next(1<<(next(uint64(round)*8+6)+1)))
				got, e := c.Advance(to)
				var want []api.Timed
				for _, x := range model {
					if x.Deadline <= to {
						want = append(want, x)
					}
				}
				slices.SortFunc(want, func(a, b api.Timed) int {
					return cmp.Or(cmp.Compare(a.Deadline, b.Deadline), cmp.Compare(a.Birth, b.Birth))
				})
				for _, x := range want {
					delete(model, x.Slot)
				}
				if e != api.OK || !slices.Equal(got, want) {
					t.Fatal(step, now, to, got, want)
				}
				now = to
				sum = append(sum, got...)
				if next(3) == 0 {
					l, _ := late.Advance(to)
					lateSum = append(lateSum, l...)
					if !slices.Equal(sum, lateSum) {
						t.Fatal(step, "in two steps")
					}
				}
			}
			first := never
			for _, x := range model {
				first = min(first, x.Deadline)
				level, bucket, e := c.Where(x.Slot)
				k := 7
				for byte(x.Deadline>>(8*k)) == byte(now>>(8*k)) {
					k--
				}
				if level != k || bucket != int(byte(x.Deadline>>(8*k))) || e != api.OK {
					t.Fatal(step, level, bucket, e)
				}
			}
			if c.Next() != first || c.Len() != len(model) || c.Now() != now {
				t.Fatal(step, c.Next(), first)
			}
		}
	}
}

// TestCopyOfBirths cancels in a copy what is scheduled in the other one.
func TestCopyOfBirths(t *testing.T) {
	c := cascade.New(0)
	_ = c.Schedule(of(1, 9, 7))
	x := c.Copy()
	_, _ = x.Cancel(1)
	is(t, "11 0 11")(c.Schedule(of(2, 9, 7)), x.Schedule(of(2, 9, 7)), c.Schedule(of(1, 9, 8)))
}
