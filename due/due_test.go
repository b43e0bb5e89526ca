package due_test

import (
	"cmp"
	"fmt"
	"slices"
	"testing"

	"cubbyhole/api"
	"cubbyhole/due"
)

func is(t *testing.T, want string) func(got ...any) {
	return func(got ...any) {
		t.Helper()
		if s := fmt.Sprint(got); s != "["+want+"]" {
			t.Errorf("got %s, want %s", s, want)
		}
	}
}

const never = api.Never

func TestExamples(t *testing.T) {
	d := due.New(10)
	is(t, "0 0 0 0 11 11 3")(d.Set(1, 20, 5), d.Set(2, never, 6), d.Set(3, 20, 2), d.Set(4, 15, 9), d.Set(1, 20, 7), d.Set(9, 30, 6), d.Set(5, 10, 8))
	is(t, "[{4 15 9} {3 20 2} {1 20 5} {2 18446744073709551615 6}]")(d.All())
	is(t, "4 3")(d.Len())
	is(t, "15 0")(d.Next(), d.Set(4, never, 9))
	is(t, "[] [{3 20 2} {1 20 5}] 20 [] 20")(d.Expire(19), d.Expire(20), d.Now(), d.Expire(5), d.Now())
	is(t, "18446744073709551615 6 0")(d.Get(2))
	is(t, "0")(d.Renumber([]uint32{0, 0, 7, 0, 2}))
	is(t, "18446744073709551615 6 0")(d.Get(7))
	is(t, "0 0 9")(d.Get(4))
	is(t, "0 9 []")(d.Remove(2), d.Remove(2), d.Expire(never))
	is(t, "1 0")(d.Len())
	is(t, "18446744073709551615 18446744073709551615 0 3")(d.Now(), d.Next(), d.Set(3, never, 99), d.Set(4, never-1, 100))
}

func TestErrors(t *testing.T) {
	for _, d := range []*due.Deadlines{nil, {}} {
		is(t, "1 1 1")(d.Set(1<<31, 0, 0), d.Remove(1<<31), d.Renumber(nil))
		is(t, "0 0 1")(d.Get(0))
		is(t, "[] 18446744073709551615 0 [] true")(d.Expire(9), d.Next(), d.Now(), d.All(), d.Copy() == nil)
		is(t, "0 0")(d.Len())
	}
	d := due.New(5)
	is(t, "2 2 2 3 3 0 0")(d.Set(1<<22, 9, 1), d.Set(1, 9, 0), d.Set(1, 1, 0), d.Set(1, 5, 1), d.Set(1, 0, 1), d.Set(1<<22-1, 6, 1), d.Set(0, never, 1<<64-1))
	is(t, "2 2 9 9")(d.Remove(1<<22), d.Remove(1<<32-1), d.Remove(7), d.Remove(1))
	is(t, "0 0 2")(d.Get(1 << 22))
	is(t, "3 11 11 11")(d.Set(0, 5, 7), d.Set(0, 6, 1), d.Set(0, 6, 3), d.Set(3, 6, 1<<64-1))
	is(t, "18446744073709551615 18446744073709551615 0")(d.Get(0))
	is(t, "0 0")(d.Set(0, 8, 1<<64-1), d.Set(1<<22-1, 9, 1))
	is(t, "[{0 8 18446744073709551615} {4194303 9 1}] 8")(d.All(), d.Next())
	is(t, "0 0 0")(d.Remove(1<<22-1), d.Set(7, 9, 1), d.Set(7, never, 1))
	is(t, "2 1")(d.Len())
	is(t, "2 2 2 2")(d.Renumber([]uint32{0, 1, 2, 3, 4, 5, 6}), d.Renumber([]uint32{1, 0, 0, 0, 0, 0, 0, 1}), d.Renumber([]uint32{1 << 22, 0, 0, 0, 0, 0, 0, 1}), d.Renumber(nil))
	is(t, "[{0 8 18446744073709551615} {7 18446744073709551615 1}]")(d.All())
	is(t, "0")(d.Renumber([]uint32{7, 1, 1, 1, 1, 1 << 30, 1, 0, 4}))
	is(t, "[{7 8 18446744073709551615} {0 18446744073709551615 1}] 5 8")(d.All(), d.Now(), d.Next())
	x := d.Copy()
	is(t, "[{7 8 18446744073709551615}] 5")(x.Expire(8), d.Now())
	is(t, "1 0")(x.Len())
	is(t, "2 1")(d.Len())
	is(t, "0 11 0")(x.Set(7, 9, 2), d.Set(7, 9, 2), d.Remove(0))
	is(t, "18446744073709551615 1 0")(x.Get(0))
	is(t, "9 18446744073709551615")(func() (any, any) { return x.Next(), due.New(7).Next() }())
}

func TestModel(t *testing.T) {
	d := due.New(0)
	model := map[uint32]api.Timed{}
	r := uint64(8)
	next := func(n uint64) uint64 { r = r*6364136223846793005 + 1442695040888963407; return r >> 33 % n }
	now, birth := api.Time(0), uint64(0)
	order := func() []api.Timed {
		l := []api.Timed{}
		for _, x := range model {
			l = append(l, x)
		}
		slices.SortFunc(l, func(a, b api.Timed) int {
			return cmp.Or(cmp.Compare(a.Deadline, b.Deadline), cmp.Compare(a.Birth, b.Birth))
		})
		return l
	}
	for step := range 3000 {
		slot := uint32(next(30))
		deadline := now + 1 + api.Time(next(400))
		if next(3) == 0 {
			deadline = never
		}
		switch op := next(6); {
		case op < 3:
			x, ok := model[slot]
			if !ok {
				birth++
				x = api.Timed{Slot: slot, Birth: birth}
			}
			x.Deadline = deadline
			if e := d.Set(slot, deadline, x.Birth); e != api.OK {
				t.Fatal(step, e)
			}
			model[slot] = x
		case op == 3:
			if e := d.Remove(slot); (e == api.OK) != (model[slot].Birth != 0) {
				t.Fatal(step, e)
			}
			delete(model, slot)
		case op == 4 && step%20 == 0:
			to := make([]uint32, 30)
			for i := range to {
				to[i] = uint32(i*7+step) % 30
			}
			if e := d.Renumber(to); e != api.OK {
				t.Fatal(step, e)
			}
			m := map[uint32]api.Timed{}
			for _, x := range model {
				x.Slot = to[x.Slot]
				m[x.Slot] = x
			}
			model = m
		default:
			l := order()
			now += api.Time(next(60))
			got := d.Expire(now)
			for i, x := range got {
				if l[i] != x || x.Deadline > now {
					t.Fatal(step, got)
				}
				delete(model, x.Slot)
			}
			if len(got) < len(l) && l[len(got)].Deadline <= now {
				t.Fatal(step, "too few")
			}
		}
		if !slices.Equal(d.All(), order()) {
			t.Fatal(step, d.All(), order())
		}
	}
}

// TestCopyOfBirths removes from a copy what the other one has.
func TestCopyOfBirths(t *testing.T) {
	d := due.New(0)
	_ = d.Set(1, 9, 7)
	x := d.Copy()
	_ = x.Remove(1)
	is(t, "11 0 11")(d.Set(2, 9, 7), x.Set(2, 9, 7), d.Set(1, 9, 8))
}
