package tiny_test

import (
	"fmt"
	"slices"
	"testing"

	"cubbyhole/api"
	"cubbyhole/bloom"
	"cubbyhole/sketch"
	"cubbyhole/tiny"
)

func is(t *testing.T, want string) func(got ...any) {
	return func(got ...any) {
		t.Helper()
		if s := fmt.Sprint(got); s != "["+want+"]" {
			t.Errorf("got %s, want %s", s, want)
		}
	}
}

const miss, hit = "{false false 0} 0", "{true false 0} 0"

func out(key int) string { return fmt.Sprint("{false true ", key, "} 0") }

func cacheOf(t *testing.T, size, window, protected int, seed uint64) *tiny.Tiny {
	t.Helper()
	c, e := tiny.New(size, window, protected, seed)
	if e != api.OK {
		t.Fatal(e)
	}
	return c
}

func TestExamples(t *testing.T) {
	c := cacheOf(t, 3, 1, 50, 0)
	is(t, miss)(c.Use(0))
	is(t, miss)(c.Use(1))
	is(t, hit)(c.Use(0))
	is(t, miss)(c.Use(2))
	is(t, "[2] [1] [0]")(c.Lists())
	is(t, out(2))(c.Use(3))
	is(t, "[3] [1] [0]")(c.Lists())
	is(t, out(3))(c.Use(2))
	is(t, "2 1 0")(c.Guess(2), c.Guess(3), c.Guess(9))
	is(t, out(1))(c.Use(4))
	is(t, "[4] [2] [0]")(c.Lists())
	is(t, "true false 3 3")(c.Has(2), c.Has(1), c.Len(), c.Size())
	is(t, "true 0")(c.Drop(0))
	is(t, "false 0")(c.Drop(0))
	is(t, miss)(c.Use(5))
	is(t, "[5] [4 2] []")(c.Lists())
	is(t, "true 0")(c.Drop(5))
	is(t, "[] [4 2] []")(c.Lists())
}

func TestErrors(t *testing.T) {
	for _, c := range []*tiny.Tiny{nil, {}} {
		is(t, "{false false 0} 1")(c.Use(1))
		is(t, "false 1")(c.Drop(1))
		is(t, "[] [] []")(c.Lists())
		is(t, "false 0 0 0 true")(c.Has(1), c.Len(), c.Size(), c.Guess(1), c.Copy() == nil)
	}
	for _, x := range [][3]int{{1, 1, 0}, {3, 0, 0}, {3, 3, 0}, {3, 1, 100}, {1025, 1, 0}, {3, 1, -1}, {3, -1, 0}, {-3, -4, 0}, {1 << 40, 1, 1}} {
		if c, e := tiny.New(x[0], x[1], x[2], 0); c != nil || e != api.ErrArg {
			t.Error(x, e)
		}
	}
	is(t, "1024 2")(cacheOf(t, 1024, 1023, 99, 1<<63).Size(), cacheOf(t, 2, 1, 0, 0).Size())
}

func TestHalving(t *testing.T) {
	c := cacheOf(t, 2, 1, 0, 7)
	for i := range 19 {
		_, _ = c.Use(5)
		is(t, fmt.Sprint(min(i+1, 16)))(c.Guess(5))
	}
	_, _ = c.Use(5)
	is(t, "7")(c.Guess(5))
	_, _ = c.Use(5)
	is(t, "8")(c.Guess(5))
}

func text(k uint32) string {
	return string([]byte{byte(k >> 24), byte(k >> 16), byte(k >> 8), byte(k)})
}

// TestModel has the lists of the definitions, from the newest to the oldest key, and a memory of its own.
func TestModel(t *testing.T) {
	r := uint32(1)
	for _, x := range [][3]int{{2, 1, 0}, {3, 1, 50}, {5, 2, 80}, {9, 1, 0}, {9, 4, 99}, {40, 3, 60}} {
		size, window, limit := x[0], x[1], x[2]*(x[0]-x[1])/100
		c := cacheOf(t, size, window, x[2], 5)
		width, bits := 16, 64
		for width < size {
			width *= 2
		}
		for bits < 8*size {
			bits *= 2
		}
		s, _ := sketch.New(width, 5, 0)
		f, _ := bloom.New(bits, 3, 5)
		requests := 0
		guess := func(k uint32) int {
			n := s.Count(text(k))
			if f.Has(text(k)) {
				n++
			}
			return n
		}
		var l [3][]uint32
		cut := func(i int, key uint32) {
			l[i] = slices.DeleteFunc(l[i], func(k uint32) bool { return k == key })
		}
		put := func(i int, key uint32) { l[i] = slices.Insert(l[i], 0, key) }
		for step := range 3000 {
			r = r*1664525 + 1013904223
			key := min(r>>16%uint32(size*3), r>>8%uint32(size*3)) * 0x01030507
			at := slices.IndexFunc(l[:], func(x []uint32) bool { return slices.Contains(x, key) })
			if r>>4%15 == 0 {
				is(t, fmt.Sprint(at >= 0, 0))(c.Drop(key))
				for i := range l {
					cut(i, key)
				}
			} else {
				if f.Has(text(key)) {
					_, _ = s.Add(text(key))
				} else {
					_, _ = f.Add(text(key))
				}
				if requests++; requests == 10*size {
					_, _, requests = s.Halve(), f.Clear(), 0
				}
				turn := api.Turn{Hit: at >= 0}
				switch {
				case at == 0:
					cut(0, key)
					put(0, key)
				case at > 0:
					cut(at, key)
					put(2, key)
					for len(l[2]) > limit {
						put(1, l[2][len(l[2])-1])
						l[2] = l[2][:len(l[2])-1]
					}
				default:
					put(0, key)
					if len(l[0]) > window {
						candidate := l[0][window]
						cut(0, candidate)
						from := 1
						if len(l[1]) == 0 {
							from = 2
						}
						if len(l[1])+len(l[2]) < size-window {
							put(1, candidate)
						} else if victim := l[from][len(l[from])-1]; guess(candidate) > guess(victim) {
							cut(from, victim)
							put(1, candidate)
							turn.Left, turn.Out = true, victim
						} else {
							turn.Left, turn.Out = true, candidate
						}
					}
				}
				is(t, fmt.Sprint(turn, 0))(c.Use(key))
			}
			is(t, fmt.Sprint(l[0], l[1], l[2]))(c.Lists())
			is(t, fmt.Sprint(guess(key), len(l[0])+len(l[1])+len(l[2])))(c.Guess(key), c.Len())
			if t.Failed() {
				t.Fatal(x, step)
			}
			if step%500 == 250 {
				y := c.Copy()
				_, _ = c.Use(1 << 31)
				_, _ = c.Drop(key)
				c = y
			}
		}
	}
}

// TestKeys has keys that differ in one byte each.
func TestKeys(t *testing.T) {
	for shift := 0; shift < 32; shift += 8 {
		c := cacheOf(t, 16, 1, 0, 3)
		s, _ := sketch.New(16, 3, 0)
		f, _ := bloom.New(128, 3, 3)
		for k := range uint32(100) {
			key := k << shift
			_, _ = c.Use(key)
			if f.Has(text(key)) {
				_, _ = s.Add(text(key))
			} else {
				_, _ = f.Add(text(key))
			}
			for j := range uint32(100) {
				want := s.Count(text(j << shift))
				if f.Has(text(j << shift)) {
					want++
				}
				if got := c.Guess(j << shift); got != want {
					t.Fatal(shift, k, j, got, want)
				}
			}
		}
	}
}
