package lfu_test

import (
	"fmt"
	"slices"
	"testing"

	"cubbyhole/api"
	"cubbyhole/lfu"
)

func is(t *testing.T, want string) func(got ...any) {
	return func(got ...any) {
		t.Helper()
		if s := fmt.Sprint(got); s != "["+want+"]" {
			t.Errorf("got %s, want %s", s, want)
		}
	}
}

const miss, hit = "{false false 0} 0", "{true false 0} 0"

func out(key int) string { return fmt.Sprint("{false true ", key, "} 0") }

func cacheOf(t *testing.T, size, age int) *lfu.LFU {
	t.Helper()
	c, e := lfu.New(size, age)
	if e != api.OK {
		t.Fatal(e)
	}
	return c
}

func TestExamples(t *testing.T) {
	c := cacheOf(t, 3, 0)
	is(t, miss)(c.Use(1))
	is(t, hit)(c.Use(1))
	is(t, miss)(c.Use(2))
	is(t, miss)(c.Use(3))
	is(t, hit)(c.Use(2))
	is(t, "[3 1 2]")(c.Order())
	is(t, out(3))(c.Use(4))
	is(t, "[4 1 2] 2 0 1 true false 3 3")(c.Order(), c.Count(1), c.Count(3), c.Count(4), c.Has(1), c.Has(3), c.Len(), c.Size())
	is(t, "true 0")(c.Drop(1))
	is(t, "false 0")(c.Drop(1))
	is(t, miss)(c.Use(5))
	is(t, "[4 5 2]")(c.Order())
	d := cacheOf(t, 2, 4)
	is(t, miss)(d.Use(1))
	is(t, hit)(d.Use(1))
	is(t, hit)(d.Use(1))
	is(t, "3")(d.Count(1))
	is(t, miss)(d.Use(2))
	is(t, "1 [2 1]")(d.Count(1), d.Order())
	is(t, out(2))(d.Use(3))
	is(t, "[1 3]")(d.Order())
}

func TestErrors(t *testing.T) {
	for _, c := range []*lfu.LFU{nil, {}} {
		is(t, "{false false 0} 1")(c.Use(1))
		is(t, "false 1")(c.Drop(1))
		is(t, "false 0 0 0 [] true")(c.Has(1), c.Len(), c.Size(), c.Count(1), c.Order(), c.Copy() == nil)
	}
	for _, x := range [][2]int{{0, 0}, {1, -1}, {1025, 0}, {-1, 0}, {1, 1<<20 + 1}, {1 << 40, 0}, {1, 1 << 40}} {
		if c, e := lfu.New(x[0], x[1]); c != nil || e != api.ErrArg {
			t.Error(x, e)
		}
	}
	is(t, "1024 1")(cacheOf(t, 1024, 1<<20).Size(), cacheOf(t, 1, 0).Size())
}

func TestGreatestCount(t *testing.T) {
	c := cacheOf(t, 3, 0)
	for range 300 {
		_, _ = c.Use(7)
	}
	for range 255 {
		_, _ = c.Use(1 << 31)
	}
	is(t, "255 255 [7 2147483648]")(c.Count(7), c.Count(1<<31), c.Order())
	_, _ = c.Use(7)
	is(t, "255 [2147483648 7]")(c.Count(7), c.Order())
	d := cacheOf(t, 3, 600)
	for range 254 {
		_, _ = d.Use(1)
	}
	for range 343 {
		_, _ = d.Use(2)
	}
	_, _ = d.Use(1)
	is(t, "255 255 [2 1]")(d.Count(1), d.Count(2), d.Order())
	_, _ = d.Use(9)
	_, _ = d.Use(1)
	is(t, "127 127 1 [9 2 1]")(d.Count(1), d.Count(2), d.Count(9), d.Order())
}

func TestCopy(t *testing.T) {
	c := cacheOf(t, 2, 5)
	for _, k := range []uint32{1, 1, 2} {
		_, _ = c.Use(k)
	}
	x := c.Copy()
	_, _ = x.Use(2)
	is(t, "[1 2] 2 1")(x.Order(), x.Count(2), c.Count(2))
	_, _ = x.Use(3)
	is(t, "[3 2] [2 1] 2")(x.Order(), c.Order(), c.Count(1)) // halved by the fifth request
	_, _ = c.Drop(1)
	c.Order()[0] = 9
	is(t, "[3 2] [2] 1")(x.Order(), c.Order(), c.Len())
}

type counted struct {
	key   uint32
	count int
}

func TestModel(t *testing.T) {
	r := uint32(1)
	for _, age := range []int{0, 1, 7, 100} {
		for size := 1; size < 7; size++ {
			c := cacheOf(t, size, age)
			var m []counted // in the order in which they would leave
			requests := 0
			for step := range 3000 {
				r = r*1664525 + 1013904223
				key := r >> 16 % uint32(size*2+1)
				key = min(key, r>>8%uint32(size*2+1))
				i := slices.IndexFunc(m, func(x counted) bool { return x.key == key })
				if r>>4%13 == 0 {
					is(t, fmt.Sprint(i >= 0, 0))(c.Drop(key))
					if i >= 0 {
						m = slices.Delete(m, i, i+1)
					}
				} else {
					x, turn := counted{key, 1}, api.Turn{}
					switch {
					case i >= 0:
						x.count, turn.Hit = min(255, m[i].count+1), true
						m = slices.Delete(m, i, i+1)
					case len(m) == size:
						turn.Left, turn.Out = true, m[0].key
						m = m[1:]
					}
					m = append(m, x)
					slices.SortStableFunc(m, func(a, b counted) int { return a.count - b.count })
					if requests++; requests == age {
						requests = 0
						for i := range m {
							m[i].count = max(1, m[i].count/2)
						}
					}
					is(t, fmt.Sprint(turn, 0))(c.Use(key))
				}
				var order []uint32
				for _, x := range m {
					order = append(order, x.key)
					if c.Count(x.key) != x.count || !c.Has(x.key) {
						t.Fatal(age, size, step, x, c.Count(x.key))
					}
				}
				if !slices.Equal(c.Order(), order) || c.Len() != len(m) || t.Failed() {
					t.Fatal(age, size, step, c.Order(), order)
				}
			}
		}
	}
}
