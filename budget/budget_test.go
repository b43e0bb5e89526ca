package budget_test

import (
	"fmt"
	"testing"

	"cubbyhole/api"
	"cubbyhole/budget"
)

func is(t *testing.T, want string) func(got ...any) {
	return func(got ...any) {
		t.Helper()
		if s := fmt.Sprint(got); s != "["+want+"]" {
			t.Errorf("got %s, want %s", s, want)
		}
	}
}

func budgetOf(t *testing.T, count, bytes int) *budget.Budget {
	t.Helper()
	b, e := budget.New(count, bytes)
	if e != api.OK {
		t.Fatal(e)
	}
	return b
}

func TestExamples(t *testing.T) {
	b := budgetOf(t, 3, 100)
	is(t, "0 0 0")(b.Add(0, 60), b.Add(1, 30), b.Add(0, 20))
	is(t, "3 110")(b.Total())
	is(t, "0 10")(b.Over())
	is(t, "2 80")(b.Used(0))
	is(t, "0")(b.Move(0, 60))
	is(t, "2 90")(b.Used(1))
	is(t, "1 20")(b.Used(0))
	is(t, "0")(b.Change(1, 60, 10))
	is(t, "3 60")(b.Total())
	is(t, "0 0")(b.Over())
	is(t, "9 9 0 9 0")(b.Remove(0, 21), b.Remove(0, 19), b.Remove(0, 20), b.Remove(0, 0), b.Set(1, 30))
	is(t, "1 10")(b.Over())
	is(t, "1 30")(b.Limits())
	is(t, "9 0")(b.Part(33))
	is(t, "2 2 2 2")(b.Set(1, 1099511627777), b.Add(2, 1), b.Add(0, -1), b.Set(0, 1))
	is(t, "0 2")(b.Part(101))
	is(t, "0 2")(b.Part(-1))
	is(t, "30 0")(b.Part(100))
	is(t, "0 0")(b.Part(0))
}

func TestArguments(t *testing.T) {
	for _, c := range [][2]int{{0, 1}, {1, 0}, {-1, 1}, {1, -1}, {1<<20 + 1, 1}, {1, 1<<40 + 1}} {
		b, e := budget.New(c[0], c[1])
		is(t, "true 2 2")(b == nil, e, budgetOf(t, 1, 1).Set(c[0], c[1]))
	}
	b := budgetOf(t, 1<<20, 1<<40)
	is(t, "1088516511498 0")(b.Part(99))
	is(t, "1099511627776 0")(b.Part(100))
	for _, g := range []api.Segment{-1, 2, 1 << 40} {
		is(t, "2 2 2 2")(b.Add(g, 1), b.Remove(g, 1), b.Move(g, 1), b.Change(g, 1, 1))
		is(t, "0 0")(b.Used(g))
	}
	for _, n := range []int{-1, 1<<40 + 1} {
		is(t, "2 2 2 2 2")(b.Add(0, n), b.Remove(0, n), b.Move(0, n), b.Change(0, 1, n), b.Change(0, n, 1))
	}
	for _, b := range []*budget.Budget{nil, {}} {
		is(t, "1 1 1 1 1 true")(b.Add(2, 1), b.Remove(2, 1), b.Move(2, 1), b.Change(2, 1, 1), b.Set(0, 0), b.Copy() == nil)
		is(t, "0 0")(b.Limits())
		is(t, "0 0")(b.Used(0))
		is(t, "0 0")(b.Total())
		is(t, "0 0")(b.Over())
		is(t, "0 1")(b.Part(101))
	}
}

func TestNone(t *testing.T) {
	b := budgetOf(t, 5, 5)
	is(t, "9 9 9 9")(b.Remove(0, 0), b.Move(1, 0), b.Change(0, 0, 0), b.Change(0, 0, 1<<40))
	is(t, "0 9 9 9 9 0")(b.Add(1, 7), b.Remove(1, 6), b.Move(1, 6), b.Change(1, 6, 7), b.Change(1, 8, 7), b.Change(1, 7, 9))
	is(t, "0 9 9 0 0")(b.Add(1, 0), b.Remove(1, 10), b.Move(1, 10), b.Move(1, 9), b.Remove(1, 0))
	is(t, "0 0")(b.Used(1))
	is(t, "1 9")(b.Used(0))
	is(t, "0 4")(b.Over())
	x := b.Copy()
	is(t, "0 0 0 0")(x.Add(0, 1), x.Set(1, 1), b.Add(1, 3), x.Remove(0, 9))
	is(t, "2 12")(b.Total())
	is(t, "1 1")(x.Total())
	is(t, "5 5")(b.Limits())
	is(t, "1 3")(b.Used(1))
	is(t, "0 0")(x.Used(1))
}

func TestFull(t *testing.T) {
	b := budgetOf(t, 1, 1)
	for range budget.MaxEntries {
		if b.Add(0, 1<<40) != api.OK {
			t.Fatal("full")
		}
	}
	is(t, "7 7 0 9")(b.Add(0, 0), b.Move(1, 0), b.Add(1, 5), b.Change(1, 4, 5))
	is(t, "7 7 0")(b.Move(1, 5), b.Move(1, 4), b.Move(0, 1<<40))
	is(t, "2097151 2305841909702066176")(b.Used(0))
	is(t, "0 7 0")(b.Move(1, 5), b.Add(0, 1<<40), b.Move(0, 5)) // just one is too many
	is(t, "2097152 2305843009213693956")(b.Over())
}

func TestParts(t *testing.T) {
	for _, bytes := range []int{1, 99, 100, 101, 12345, 1<<40 - 1} {
		b := budgetOf(t, 1, bytes)
		for h := range 101 {
			x, _ := b.Part(h)
			y, _ := b.Part(100 - h)
			if x+y != bytes && x+y != bytes-1 || x != bytes*h/100 {
				t.Error(bytes, h, x, y)
			}
		}
	}
}

// TestTotal makes the cost of a segment as great as it may be.
func TestTotal(t *testing.T) {
	b := budgetOf(t, 1, 1)
	is(t, "0 0 0 0")(b.Add(0, 0), b.Add(0, 0), b.Add(1, 1), b.Add(1, 1))
	for range budget.MaxTotal >> 40 {
		if b.Change(0, 0, 1<<40) != api.OK {
			t.Fatal("full")
		}
	}
	is(t, "2 2305843009213693952")(b.Used(0))
	is(t, "7 7 7 0 0 7")(b.Change(0, 0, 1), b.Add(0, 1), b.Move(1, 1), b.Add(0, 0), b.Change(0, 1, 0), b.Change(0, 0, 2))
}
