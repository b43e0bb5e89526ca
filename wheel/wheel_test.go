package wheel_test

import (
	"fmt"
	"testing"

	"cubbyhole/api"
	"cubbyhole/wheel"
)

func is(t *testing.T, want string) func(got ...any) {
	return func(got ...any) {
		t.Helper()
		if s := fmt.Sprint(got); s != "["+want+"]" {
			t.Errorf("got %s, want %s", s, want)
		}
	}
}

func TestExamples(t *testing.T) {
	w := wheel.New()
	is(t, "0 0 0 11")(w.Put(7, 70), w.Put(3, 70), w.Put(9, 255), w.Put(7, 1))
	is(t, "70 0")(w.Next(0))
	is(t, "70 0")(w.Next(70))
	is(t, "255 0")(w.Next(71))
	is(t, "255 0")(w.Next(255))
	is(t, "[7 3] 0")(w.List(70))
	is(t, "[0 64 0 9223372036854775808]")(w.Full())
	is(t, "70 0")(w.Bucket(3))
	is(t, "70 0")(w.Remove(7))
	is(t, "[3] 0")(w.Take(70))
	is(t, "255 0")(w.Next(0))
	is(t, "1")(w.Len())
	is(t, "[] 0")(w.Take(70))
	is(t, "0 9")(w.Remove(3))
	is(t, "[9] 0")(w.Take(255))
	is(t, "0 9")(w.Next(0))
	is(t, "0 2")(w.Next(256))
	is(t, "2 2")(w.Put(4194304, 0), w.Put(1, -1))
	is(t, "[0 0 0 0] 0")(w.Full(), w.Len())
}

func TestErrors(t *testing.T) {
	for _, w := range []*wheel.Wheel{nil, {}} {
		is(t, "1")(w.Put(0, -1))
		is(t, "0 1")(w.Remove(1 << 31))
		is(t, "[] 1")(w.Take(-1))
		is(t, "0 1")(w.Bucket(0))
		is(t, "0 1")(w.Next(-1))
		is(t, "[] 1")(w.List(-1))
		is(t, "0 [0 0 0 0] true")(w.Len(), w.Full(), w.Copy() == nil)
	}
	w := wheel.New()
	for _, b := range []int{-1, 256, 1 << 40, -1 << 63} {
		is(t, "2")(w.Put(1, b))
		is(t, "[] 2")(w.Take(b))
		is(t, "[] 2")(w.List(b))
		is(t, "0 2")(w.Next(b))
	}
	for _, s := range []uint32{1 << 22, 1<<32 - 1} {
		is(t, "2")(w.Put(s, 0))
		is(t, "0 2")(w.Remove(s))
		is(t, "0 2")(w.Bucket(s))
	}
	is(t, "0 9")(w.Bucket(1<<22 - 1))
	is(t, "0 9")(w.Remove(5))
	is(t, "0 0 11 2")(w.Put(1<<22-1, 0), w.Put(0, 255), w.Put(0, 255), w.Put(0, 256))
	is(t, "4194304 4194304")(wheel.MaxSlots, len(make([]struct{}, wheel.MaxSlots)))
}

func TestCopy(t *testing.T) {
	w := wheel.New()
	for i := range uint32(10) {
		_ = w.Put(i, int(i)%3)
	}
	x := w.Copy()
	l, _ := x.Take(1)
	is(t, "[1 4 7] 7 10")(l, x.Len(), w.Len())
	_, _ = w.Remove(0)
	_ = w.Put(0, 9)
	is(t, "[0 3 6 9] 0")(x.List(0))
	is(t, "[3 6 9] 0")(w.List(0))
	is(t, "[519 0 0 0] [5 0 0 0]")(w.Full(), x.Full())
	l, _ = w.List(0)
	l[0] = 99
	is(t, "[3 6 9] 0")(w.List(0))
}

func TestModel(t *testing.T) {
	w := wheel.New()
	at := map[uint32]int{}
	r := uint32(2)
	for step := range 3000 {
		r = r*1664525 + 1013904223
		slot, bucket := r>>25, int(r>>8&255)
		if b, ok := at[slot]; ok {
			if got, e := w.Remove(slot); got != b || e != api.OK {
				t.Fatal(step, got, e)
			}
			delete(at, slot)
		} else {
			if e := w.Put(slot, bucket); e != api.OK {
				t.Fatal(step, e)
			}
			at[slot] = bucket
		}
		var full [4]uint64
		for _, b := range at {
			full[b/64] |= 1 << (b % 64)
		}
		if w.Full() != full || w.Len() != len(at) {
			t.Fatal(step)
		}
		seen := 0
		for b := 0; b < 256; b++ {
			n, e := w.Next(b)
			if e != api.OK {
				break
			}
			for k := b; k < n; k++ {
				if l, _ := w.List(k); len(l) != 0 {
					t.Fatal(step, k)
				}
			}
			l, _ := w.List(n)
			for _, s := range l {
				if at[s] != n {
					t.Fatal(step, s)
				}
			}
			seen += len(l)
			b = n
		}
		if seen != len(at) {
			t.Fatal(step, seen)
		}
	}
}
