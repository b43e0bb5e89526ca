package slab_test

import (
	"bytes"
	"fmt"
	"testing"

	"cubbyhole/api"
	"cubbyhole/slab"
)

func is(t *testing.T, want string) func(got ...any) {
	return func(got ...any) {
		t.Helper()
		if s := fmt.Sprint(got); s != "["+want+"]" {
			t.Errorf("got %s, want %s", s, want)
		}
	}
}

func cell(class, n int) api.Cell { return api.Cell{Class: class, N: n} }

func TestClassSize(t *testing.T) {
	for n, want := range map[int]int{0: 0, 1: 0, 16: 0, 17: 1, 32: 1, 33: 2, 64: 2, 65: 3, 32768: 11, 32769: 12, 65536: 12} {
		is(t, fmt.Sprint(want, " 0"))(slab.Class(n))
	}
	for _, n := range []int{-1, 65537, 1<<63 - 1, -1 << 63} {
		is(t, "0 3")(slab.Class(n))
	}
	for class := range slab.Classes {
		is(t, fmt.Sprint(16<<class, " 0"))(slab.Size(class))
	}
	for _, n := range []int{-1, 13, 1<<63 - 1} {
		is(t, "0 3")(slab.Size(n))
	}
}

func TestExamples(t *testing.T) {
	a, e := slab.New(64)
	is(t, "0")(e)
	is(t, "{0 0} 0")(a.Put([]byte("abc")))
	is(t, "{1 0} 0")(a.Put(make([]byte, 20)))
	is(t, "{0 1} 0")(a.Put(make([]byte, 16)))
	is(t, "{0 0} 7")(a.Put([]byte("x")))
	is(t, "64 64 39")(a.Used())
	is(t, "0")(a.Free(cell(0, 0)))
	is(t, "0")(a.Free(cell(0, 1)))
	is(t, "[1 0] 0")(a.Frees(0))
	is(t, "[] 0")(a.Frees(1))
	is(t, "32 64 20")(a.Used())
	is(t, "{0 1} 0")(a.Put([]byte("x")))
	is(t, "[120] 0")(a.Get(cell(0, 1)))
	is(t, "[] 9")(a.Get(cell(0, 0)))
	is(t, "{0 1} 0")(a.Swap(cell(0, 1), []byte("yz")))
	is(t, "48 64 22")(a.Used())
	is(t, "{0 0} 7")(a.Swap(cell(0, 1), make([]byte, 17)))
	is(t, "[121 122] 0")(a.Get(cell(0, 1)))
	is(t, "0")(a.Free(cell(1, 0)))
	is(t, "{1 0} 0")(a.Swap(cell(0, 1), make([]byte, 17)))
	is(t, "32 64 17")(a.Used())
	is(t, "[1 0] 0")(a.Frees(0))
	is(t, "9")(a.Free(cell(0, 1)))
}

func TestErrors(t *testing.T) {
	for _, a := range []*slab.Arena{nil, {}} {
		is(t, "{0 0} 1")(a.Put(make([]byte, 70000)))
		is(t, "[] 1")(a.Get(cell(0, 0)))
		is(t, "1")(a.Free(cell(-1, 0)))
		is(t, "{0 0} 1")(a.Swap(cell(0, 0), nil))
		is(t, "[] 1")(a.Frees(-1))
		is(t, "0 0 0")(a.Used())
		is(t, "true")(a.Copy() == nil)
	}
	for _, n := range []int{-1, 1<<40 + 1} {
		if a, e := slab.New(n); a != nil || e != api.ErrArg {
			t.Error(n, e)
		}
	}
	for _, n := range []int{0, 1 << 40} {
		if a, e := slab.New(n); a == nil || e != api.OK {
			t.Error(n, e)
		}
	}
	a, _ := slab.New(1 << 20)
	_, _ = a.Put(nil)
	for _, c := range []api.Cell{cell(-1, 0), cell(13, 0), cell(0, 1), cell(0, -1), cell(1, 0), cell(1<<62, 1<<62)} {
		is(t, "[] 9")(a.Get(c))
		is(t, "9")(a.Free(c))
		is(t, "{0 0} 9")(a.Swap(c, make([]byte, 65537)))
	}
	is(t, "{0 0} 5")(a.Put(make([]byte, 65537)))
	is(t, "{0 0} 5")(a.Swap(cell(0, 0), make([]byte, 65537)))
	is(t, "[] 3")(a.Frees(13))
	is(t, "[] 3")(a.Frees(-1))
	z, _ := slab.New(0)
	is(t, "{0 0} 7")(z.Put(nil))
	is(t, "{0 0} 5")(z.Put(make([]byte, 65537)))
	is(t, "{12 0} 0")(a.Put(make([]byte, 65536)))
}

func TestIndependence(t *testing.T) {
	a, _ := slab.New(1000)
	v := []byte("abc")
	c, _ := a.Put(v)
	v[0] = 'x'
	got, _ := a.Get(c)
	got[1] = 'x'
	is(t, "[97 98 99] 0")(a.Get(c))
	b := a.Copy()
	v = []byte("de")
	_, _ = b.Swap(c, v)
	v[0] = 'x'
	is(t, "[97 98 99] 0")(a.Get(c))
	is(t, "[100 101] 0")(b.Get(c))
	_, _ = b.Put(nil)
	_ = b.Free(c)
	is(t, "16 16 3")(a.Used())
	is(t, "16 32 0")(b.Used())
	l, _ := b.Frees(0)
	l[0] = 7
	is(t, "[0] 0")(b.Frees(0))
	x := b.Copy()
	_, _ = x.Put(nil)
	is(t, "[0] 0")(b.Frees(0))
}

func TestModel(t *testing.T) {
	a, _ := slab.New(20000)
	held := map[api.Cell][]byte{}
	r := uint32(5)
	for step := range 5000 {
		r = r*1664525 + 1013904223
		b := bytes.Repeat([]byte{byte(step)}, int(r>>20)%700)
		var any api.Cell
		found := false
		for c := range held {
			if !found || c.Class*100000+c.N < any.Class*100000+any.N {
				any, found = c, true
			}
		}
		switch {
		case r>>10%3 == 0 || !found:
			if c, e := a.Put(b); e == api.OK {
				if _, ok := held[c]; ok {
					t.Fatal("used twice")
				}
				held[c] = b
			}
		case r>>10%3 == 1:
			if e := a.Free(any); e != api.OK {
				t.Fatal(e)
			}
			delete(held, any)
		default:
			if c, e := a.Swap(any, b); e == api.OK {
				delete(held, any)
				held[c] = b
			}
		}
		used, all, sum := a.Used()
		n, m := 0, 0
		for c, b := range held {
			got, e := a.Get(c)
			if e != api.OK || !bytes.Equal(got, b) {
				t.Fatal(step, c)
			}
			n += len(b)
			m += 16 << c.Class
		}
		if sum != n || used != m || all > 20000 || used > all || used > 2*sum+16*len(held) {
			t.Fatal(step, used, all, sum)
		}
	}
}

// TestCopyOfFree frees cells in an arena and in its copy.
func TestCopyOfFree(t *testing.T) {
	a, _ := slab.New(1000)
	for range 8 {
		_, _ = a.Put(nil)
	}
	for n := range 5 {
		_ = a.Free(cell(0, n))
	}
	b := a.Copy()
	_, _ = a.Put(nil)
	_, _ = b.Put(nil)
	_ = a.Free(cell(0, 6))
	_ = b.Free(cell(0, 7))
	is(t, "[6 3 2 1 0] 0")(a.Frees(0))
	is(t, "[7 3 2 1 0] 0")(b.Frees(0))
}
