package twoq_test

import (
	"fmt"
	"slices"
	"testing"

	"cubbyhole/api"
	"cubbyhole/twoq"
)

func is(t *testing.T, want string) func(got ...any) {
	return func(got ...any) {
		t.Helper()
		if s := fmt.Sprint(got); s != "["+want+"]" {
			t.Errorf("got %s, want %s", s, want)
		}
	}
}

const miss, hit = "{false false 0} 0", "{true false 0} 0"

func out(key int) string { return fmt.Sprint("{false true ", key, "} 0") }

func cacheOf(t *testing.T, size, in, out int) *twoq.TwoQ {
	t.Helper()
	c, e := twoq.New(size, in, out)
	if e != api.OK {
		t.Fatal(e)
	}
	return c
}

func TestExamples(t *testing.T) {
	c := cacheOf(t, 3, 1, 2)
	is(t, miss)(c.Use(1))
	is(t, miss)(c.Use(2))
	is(t, miss)(c.Use(3))
	is(t, hit)(c.Use(2))
	is(t, out(1))(c.Use(4))
	is(t, out(2))(c.Use(1))
	is(t, "[4 3] [1] [2]")(c.Lists())
	is(t, "true false 3 3")(c.Has(1), c.Has(2), c.Len(), c.Size())
	is(t, out(3))(c.Use(5))
	is(t, out(4))(c.Use(6))
	is(t, "[6 5] [1] [4 3]")(c.Lists())
	is(t, hit)(c.Use(1))
	is(t, out(5))(c.Use(4))
	is(t, out(1))(c.Use(7))
	is(t, "[7 6] [4] [5 3]")(c.Lists())
	is(t, "false 0")(c.Drop(5))
	is(t, "true 0")(c.Drop(4))
	is(t, miss)(c.Use(8))
	is(t, "[8 7 6] [] [5 3]")(c.Lists())
}

func TestErrors(t *testing.T) {
	for _, c := range []*twoq.TwoQ{nil, {}} {
		is(t, "{false false 0} 1")(c.Use(1))
		is(t, "false 1")(c.Drop(1))
		is(t, "[] [] []")(c.Lists())
		is(t, "false 0 0 true")(c.Has(1), c.Len(), c.Size(), c.Copy() == nil)
	}
	for _, x := range [][3]int{{0, 1, 1}, {3, 0, 1}, {3, 4, 1}, {3, 1, -1}, {1025, 1, 1}, {3, 1, 1025}, {-1, -1, 0}, {3, -1, 0}, {1 << 40, 1, 1}} {
		if c, e := twoq.New(x[0], x[1], x[2]); c != nil || e != api.ErrArg {
			t.Error(x, e)
		}
	}
	is(t, "1024 1")(cacheOf(t, 1024, 1024, 1024).Size(), cacheOf(t, 1, 1, 0).Size())
}

func TestCopy(t *testing.T) {
	c := cacheOf(t, 3, 1, 2)
	for _, k := range []uint32{1, 2, 3, 4, 1, 1 << 31} {
		_, _ = c.Use(k)
	}
	was := fmt.Sprint(c.Lists())
	x := c.Copy()
	is(t, was)(x.Lists())
	for k := range uint32(9) {
		_, _ = x.Use(k)
	}
	_, _ = x.Drop(8)
	a, b, g := c.Lists()
	a[0], b[0], g[0] = 9, 9, 9
	is(t, was)(c.Lists())
	for k := range uint32(9) {
		_, _ = c.Use(k)
	}
	_, _ = c.Drop(8)
	is(t, fmt.Sprint(c.Lists()))(x.Lists())
}

func TestModel(t *testing.T) {
	r := uint32(1)
	for size := 1; size < 8; size++ {
		for in := 1; in <= size; in += 2 {
			most := int(r>>20) % 6
			c := cacheOf(t, size, in, most)
			var l [3][]uint32 // the queue, the main list and the ghosts, from the newest key to the oldest one
			cut := func(i int, key uint32) {
				l[i] = slices.DeleteFunc(l[i], func(k uint32) bool { return k == key })
			}
			for step := range 2000 {
				r = r*1664525 + 1013904223
				key := r >> 16 % uint32(size*2+3)
				at := slices.IndexFunc(l[:], func(x []uint32) bool { return slices.Contains(x, key) })
				if r>>8%12 == 0 {
					is(t, fmt.Sprint(at == 0 || at == 1, 0))(c.Drop(key))
					cut(0, key)
					cut(1, key)
				} else {
					var turn api.Turn
					to := 0
					switch {
					case at == 0:
						turn.Hit = true
					case at == 1:
						turn.Hit = true
						to = 1
					default:
						if at == 2 {
							to = 1
							cut(2, key)
						}
						if len(l[0])+len(l[1]) == size {
							from := 1
							if len(l[0]) > in || len(l[1]) == 0 {
								from = 0
							}
							turn.Left, turn.Out = true, l[from][len(l[from])-1]
							cut(from, turn.Out)
							if from == 0 {
								l[2] = slices.Insert(l[2], 0, turn.Out)
								l[2] = l[2][:min(most, len(l[2]))]
							}
						}
					}
					if at != 0 {
						cut(1, key)
						l[to] = slices.Insert(l[to], 0, key)
					}
					is(t, fmt.Sprint(turn, 0))(c.Use(key))
				}
				is(t, fmt.Sprint(l[0], l[1], l[2]))(c.Lists())
				if t.Failed() || c.Len() != len(l[0])+len(l[1]) || c.Has(key) != (slices.Contains(l[0], key) || slices.Contains(l[1], key)) {
					t.Fatal(size, in, most, step)
				}
			}
		}
	}
}
