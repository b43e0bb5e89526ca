package victim_test

import (
	"fmt"
	"testing"

	"cubbyhole/api"
	"cubbyhole/victim"
)

func is(t *testing.T, want string) func(got ...any) {
	return func(got ...any) {
		t.Helper()
		if s := fmt.Sprint(got); s != "["+want+"]" {
			t.Errorf("got %s, want %s", s, want)
		}
	}
}

// l returns entries from slots and costs, one after the other.
func l(x ...int) (w []api.Weighed) {
	for i := 0; i < len(x); i += 2 {
		w = append(w, api.Weighed{Slot: uint32(x[i]), Cost: x[i+1]})
	}
	return
}

const nobody = victim.Nobody

func TestExamples(t *testing.T) {
	p, q := l(1, 4, 2, 5), l(3, 6, 9, 1)
	is(t, "[{1 4} {2 5} {3 6} {9 1}] 0")(victim.Order(p, q, nobody))
	is(t, "[{1 4} {3 6} {9 1}] 0")(victim.Order(p, q, 2))
	is(t, "[{1 4} {2 5} {3 6}] 0")(victim.Order(p, q, 9))
	is(t, "[{1 4} {2 5} {3 6} {9 1}] 0")(victim.Order(p, q, 7))
	for _, c := range []struct {
		keep         uint32
		count, bytes int
		want         string
	}{
		{nobody, 4, 16, "[]"}, {nobody, 3, 16, "[1]"}, {nobody, 4, 11, "[1 2]"}, {nobody, 4, 0, "[1 2 3 9]"}, {nobody, 0, 99, "[1 2 3 9]"}, {2, 4, 5, "[1 3 9]"}, {2, 4, 4, "[1 3 9]"}, {2, 3, 99, "[1]"},
		{nobody, 4, 12, "[1]"}, {nobody, 4, 15, "[1]"}, {7, 2, 99, "[1 2]"}, {9, 1, 1, "[1 2 3]"}, {9, 0, 0, "[1 2 3]"}, {nobody, 1<<63 - 1, 1<<63 - 1, "[]"},
	} {
		is(t, c.want+" 0")(victim.Choose(p, q, c.keep, c.count, c.bytes))
	}
	is(t, "-1 0")(victim.Check(p, q, nobody, 4, 11, []uint32{1, 2}))
	is(t, "1 0")(victim.Check(p, q, nobody, 4, 11, []uint32{1, 3}))
	is(t, "1 0")(victim.Check(p, q, nobody, 4, 11, []uint32{1}))
	is(t, "2 0")(victim.Check(p, q, nobody, 4, 11, []uint32{1, 2, 3}))
	is(t, "0 0")(victim.Check(p, q, nobody, 4, 11, nil))
	is(t, "-1 0")(victim.Check(p, q, nobody, 4, 16, nil))
	is(t, "0 0")(victim.Check(p, q, nobody, 4, 16, []uint32{1}))
	is(t, "-1 0")(victim.Check(p, q, 2, 4, 4, []uint32{1, 3, 9}))
	is(t, "[{1 4} {2 5}] [{3 6} {9 1}]")(p, q)
	o, _ := victim.Order(p, nil, nobody)
	o[0].Cost = 99
	is(t, "[{1 4} {2 5}]")(p)
}

func TestErrors(t *testing.T) {
	many := make([]api.Weighed, victim.MaxVictims+1)
	for i := range many {
		many[i].Slot = uint32(i)
	}
	for i, c := range [][2][]api.Weighed{{l(1, 4, 1, 5), nil}, {l(1, 4), l(1, 5)}, {nil, l(2, 1, 3, 1, 2, 1)}, {l(1<<22, 1), nil}, {l(1, -1), nil}, {nil, l(1, 1<<40+1)}, {nil, l(1<<32-1, 1)}, {many, nil}, {many[:victim.MaxVictims], many[victim.MaxVictims:]}} {
		x, e := victim.Order(c[0], c[1], nobody)
		y, f := victim.Choose(c[0], c[1], nobody, 1, 1)
		z, g := victim.Check(c[0], c[1], nobody, 1, 1, []uint32{9})
		if x != nil || y != nil || z != 0 || e != api.ErrArg || f != api.ErrArg || g != api.ErrArg {
			t.Error(i, e, f, g)
		}
	}
	is(t, "[] 2")(victim.Choose(nil, nil, nobody, -1, 0))
	is(t, "[] 2")(victim.Choose(nil, nil, nobody, 0, -1))
	is(t, "0 2")(victim.Check(nil, nil, nobody, -1, 0, nil))
	is(t, "0 2")(victim.Check(nil, nil, nobody, 0, -1, nil))
	is(t, "[] 0")(victim.Choose(nil, nil, nobody, 0, 0))
	is(t, "[] 0")(victim.Order(nil, nil, nobody))
	is(t, "[4194303] 0")(victim.Choose(l(1<<22-1, 1<<40), nil, nobody, 1, 1<<40-1))
	o, e := victim.Order(many[:victim.MaxVictims-1], many[victim.MaxVictims:], 5)
	is(t, "2097151 0")(len(o), e)
	o, e = victim.Order(many[:victim.MaxVictims], nil, nobody)
	is(t, "2097152 0")(len(o), e)
}

func TestConsequences(t *testing.T) {
	p, q := l(1, 4, 2, 0, 3, 5, 4, 0), l(5, 6, 6, 1, 7, 0)
	all := append(append([]api.Weighed{}, p...), q...)
	for keep := range uint32(9) {
		if keep == 8 {
			keep = nobody
		}
		order, _ := victim.Order(p, q, keep)
		for count := range 9 {
			for bytes := range 18 {
				v, _ := victim.Choose(p, q, keep, count, bytes)
				within := func(n int) bool { // without the first n of the order
					left, cost := len(all)-n, 0
					for _, x := range all {
						cost += x.Cost
					}
					for _, x := range order[:n] {
						cost -= x.Cost
					}
					return left <= count && cost <= bytes
				}
				for i, s := range v {
					if order[i].Slot != s || within(i) {
						t.Fatal(keep, count, bytes, v)
					}
				}
				if !within(len(v)) && len(v) != len(order) {
					t.Fatal(keep, count, bytes, v)
				}
			}
		}
	}
}
