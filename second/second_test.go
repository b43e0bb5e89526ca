package second_test

import (
	"fmt"
	"testing"

	"cubbyhole/api"
	"cubbyhole/second"
)

func is(t *testing.T, want string) func(got ...any) {
	return func(got ...any) {
		t.Helper()
		if s := fmt.Sprint(got); s != "["+want+"]" {
			t.Errorf("got %s, want %s", s, want)
		}
	}
}

const miss, hit = "{false false 0} 0", "{true false 0} 0"

func out(key int) string { return fmt.Sprint("{false true ", key, "} 0") }

func cacheOf(t *testing.T, size int) *second.Second {
	t.Helper()
	c, e := second.New(size)
	if e != api.OK {
		t.Fatal(e)
	}
	return c
}

func TestExamples(t *testing.T) {
	c := cacheOf(t, 3)
	is(t, miss)(c.Use(1))
	is(t, miss)(c.Use(2))
	is(t, miss)(c.Use(3))
	is(t, hit)(c.Use(1))
	is(t, "[1 2 3] [true false false]")(c.Ring())
	is(t, out(2))(c.Use(4))
	is(t, "[1 4 3] [false false false]")(c.Ring())
	is(t, "2")(c.Hand())
	is(t, hit)(c.Use(3))
	is(t, out(1))(c.Use(5))
	is(t, "[5 4 3] [false false false]")(c.Ring())
	is(t, "1")(c.Hand())
	is(t, "true 0")(c.Drop(3))
	is(t, "false 0")(c.Drop(3))
	is(t, "false true 2 3")(c.Has(3), c.Has(4), c.Len(), c.Size())
	is(t, miss)(c.Use(6))
	is(t, "[5 4 6] [false false false]")(c.Ring())
	is(t, "1")(c.Hand())
}

func TestErrors(t *testing.T) {
	for _, c := range []*second.Second{nil, {}} {
		is(t, "{false false 0} 1")(c.Use(1))
		is(t, "false 1")(c.Drop(1))
		is(t, "[] []")(c.Ring())
		is(t, "false 0 0 0 true")(c.Has(1), c.Len(), c.Size(), c.Hand(), c.Copy() == nil)
	}
	for _, n := range []int{0, -1, 1025, 1 << 40} {
		if c, e := second.New(n); c != nil || e != api.ErrArg {
			t.Error(n, e)
		}
	}
	is(t, "1024")(cacheOf(t, 1024).Size())
	c := cacheOf(t, 1)
	is(t, miss)(c.Use(0))
	is(t, hit)(c.Use(0))
	is(t, out(0))(c.Use(1<<32 - 1))
	is(t, "[4294967295] [false]")(c.Ring())
}

func TestHand(t *testing.T) {
	c := cacheOf(t, 3)
	for _, k := range []uint32{1, 2, 3, 1, 2, 3} {
		_, _ = c.Use(k)
	}
	is(t, out(1))(c.Use(4)) // all were marked: the hand goes round once
	is(t, "[4 2 3] [false false false]")(c.Ring())
	is(t, "1")(c.Hand())
	_, _ = c.Drop(2) // at the hand: it stays
	_, _ = c.Drop(4)
	is(t, "1")(c.Hand())
	is(t, miss)(c.Use(5)) // the free place with the lowest number
	is(t, miss)(c.Use(6))
	is(t, "[5 6 3] [false false false]")(c.Ring())
	is(t, hit)(c.Use(6))
	_, _ = c.Drop(6)
	_, _ = c.Use(7) // a mark does not stay in a place
	is(t, "[5 7 3] [false false false]")(c.Ring())
	is(t, out(7))(c.Use(8))
	is(t, "2")(c.Hand())
	x := c.Copy()
	_, _ = x.Use(5)
	is(t, out(3))(x.Use(9))
	is(t, out(8))(x.Use(10))
	is(t, "[5 8 3] [false false false]")(c.Ring())
	is(t, "[5 10 9] [false false false]")(x.Ring())
	is(t, "2 2")(c.Hand(), x.Hand())
}

func TestOrder(t *testing.T) {
	c := cacheOf(t, 4)
	for k := range uint32(40) {
		want := miss
		if k >= 4 {
			want = out(int(k) - 4)
		}
		is(t, want)(c.Use(k))
	}
}

// TestModel goes on as the definitions say.
func TestModel(t *testing.T) {
	r := uint32(5)
	for size := 1; size < 7; size++ {
		c := cacheOf(t, size)
		keys, full, marked, hand := make([]uint32, size), make([]bool, size), make([]bool, size), 0
		for step := range 3000 {
			r = r*1664525 + 1013904223
			key := r >> 16 % uint32(size*2)
			at, free, n := -1, -1, 0
			for i := size - 1; i >= 0; i-- {
				if full[i] {
					n++
					if keys[i] == key {
						at = i
					}
				} else {
					free = i
				}
			}
			switch {
			case r>>8%10 == 0:
				is(t, fmt.Sprint(at >= 0, 0))(c.Drop(key))
				if at >= 0 {
					full[at], marked[at] = false, false
				}
			case at >= 0:
				is(t, hit)(c.Use(key))
				marked[at] = true
			case free >= 0:
				is(t, miss)(c.Use(key))
				keys[free], full[free] = key, true
			default:
				for marked[hand] {
					marked[hand] = false
					hand = (hand + 1) % size
				}
				is(t, out(int(keys[hand])))(c.Use(key))
				keys[hand] = key
				hand = (hand + 1) % size
			}
			var k []uint32
			var u []bool
			for i := range size {
				if full[i] {
					k, u = append(k, keys[i]), append(u, marked[i])
				}
			}
			is(t, fmt.Sprint(k, u))(c.Ring())
			if t.Failed() || c.Hand() != hand || c.Len() != len(k) {
				t.Fatal(size, step)
			}
		}
	}
}
