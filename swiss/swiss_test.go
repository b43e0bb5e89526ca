package swiss_test

import (
	"fmt"
	"testing"

	"cubbyhole/api"
	"cubbyhole/hash"
	"cubbyhole/swiss"
)

func is(slot uint32) func(uint32) bool { return func(s uint32) bool { return s == slot } }
func any_(uint32) bool                 { return true }
func noSum(uint32) uint64              { return 0 }

func index(t *testing.T, groups int) *swiss.Index {
	t.Helper()
	x, e := swiss.New(groups)
	if e != api.OK || x == nil {
		t.Fatal(groups, e)
	}
	return x
}

func state(x *swiss.Index) string {
	c, s := x.Layout()
	return fmt.Sprint(c, s, x.Groups(), x.Len(), x.Tombs())
}

func TestExamples(t *testing.T) {
	x := index(t, 1)
	if e := [3]api.Errno{x.Insert(128, 7), x.Insert(3, 8), x.Insert(128, 9)}; e != [3]api.Errno{} {
		t.Error(e)
	}
	if s := state(x); s != "[0 3 0 128 128 128 128 128] [7 8 9 0 0 0 0 0] 1 3 0" {
		t.Error(s)
	}
	if s, e := x.Find(128, is(9)); s != 9 || e != api.OK {
		t.Error(s, e)
	}
	if s, e := x.Find(3, is(9)); s != 0 || e != api.ErrNone {
		t.Error(s, e)
	}
	if s, e := x.Find(128, any_); s != 7 || e != api.OK {
		t.Error(s, e)
	}
	if e := [2]api.Errno{x.Remove(128, 7), x.Remove(128, 7)}; e != [2]api.Errno{api.OK, api.ErrNone} {
		t.Error(e)
	}
	if s := state(x); s != "[128 3 0 128 128 128 128 128] [0 8 9 0 0 0 0 0] 1 2 0" {
		t.Error(s)
	}
	if e := x.Insert(5, 4); e != api.OK {
		t.Error(e)
	}
	if s := state(x); s != "[5 3 0 128 128 128 128 128] [4 8 9 0 0 0 0 0] 1 3 0" {
		t.Error(s)
	}
	if e := x.Replace(128, 9, 1); e != api.OK {
		t.Error(e)
	}
	if s, e := x.Find(128, any_); s != 1 || e != api.OK {
		t.Error(s, e)
	}
	if e := x.Replace(128, 9, 1); e != api.ErrNone {
		t.Error(e)
	}
	if y, e := swiss.New(3); y != nil || e != api.ErrArg {
		t.Error(y, e)
	}
}

func TestTombs(t *testing.T) {
	x := index(t, 2)
	for i := range uint32(10) { // the groups 0 and then 1: the group part is 0
		if e := x.Insert(5, i); e != api.OK {
			t.Fatal(e)
		}
	}
	if e := x.Remove(5, 3); e != api.OK {
		t.Error(e)
	}
	if e := x.Remove(5, 8); e != api.OK {
		t.Error(e)
	}
	if s := state(x); s != "[5 5 5 254 5 5 5 5 128 5 128 128 128 128 128 128] [0 1 2 0 4 5 6 7 0 9 0 0 0 0 0 0] 2 8 1" {
		t.Error(s)
	}
	var asked []uint32
	if s, e := x.Find(5, func(s uint32) bool { asked = append(asked, s); return s == 9 }); s != 9 || e != api.OK || fmt.Sprint(asked) != "[0 1 2 4 5 6 7 9]" {
		t.Error(s, e, asked)
	}
	y := x.Copy()
	if e := x.Insert(6, 77); e != api.OK || x.Tombs() != 0 || x.Len() != 9 {
		t.Error(e, x.Tombs(), x.Len())
	}
	if c, s := x.Layout(); c[3] != 6 || s[3] != 77 {
		t.Error(c, s)
	}
	if y.Tombs() != 1 || y.Len() != 8 {
		t.Error("copy")
	}
	c, s := y.Layout()
	c[0], s[0] = 9, 99
	if state(y) != "[5 5 5 254 5 5 5 5 128 5 128 128 128 128 128 128] [0 1 2 0 4 5 6 7 0 9 0 0 0 0 0 0] 2 8 1" {
		t.Error("layout shares memory")
	}
	// a search ends in a group with an empty lane
	z := index(t, 2)
	_ = z.Insert(1<<7|5, 1)
	if s, e := z.Find(5, any_); s != 0 || e != api.ErrNone {
		t.Error(s, e)
	}
}

func TestFull(t *testing.T) {
	x := index(t, 1)
	for i := range uint32(8) {
		if e := x.Insert(uint64(i)<<7, i+1); e != api.OK {
			t.Error(e)
		}
	}
	if e := x.Insert(0, 9); e != api.ErrFull || x.Len() != 8 {
		t.Error(e)
	}
	if s, e := x.Find(1, any_); s != 0 || e != api.ErrNone { // there is no further group
		t.Error(s, e)
	}
	_ = x.Remove(0, 4)
	if x.Tombs() != 1 {
		t.Error(x.Tombs())
	}
	if e := x.Insert(9, 4); e != api.OK || x.Tombs() != 0 {
		t.Error(e)
	}
	y, e := x.Rehash(2, func(s uint32) uint64 { return uint64(s) << 7 })
	if e != api.OK || state(y) != "[0 0 0 0 128 128 128 128 0 0 0 0 128 128 128 128] [2 4 6 8 0 0 0 0 1 3 5 7 0 0 0 0] 2 8 0" {
		t.Error(e, state(y))
	}
	big := index(t, 2)
	for i := range uint32(9) {
		_ = big.Insert(0, i)
	}
	if z, e := big.Rehash(1, noSum); z != nil || e != api.ErrFull || big.Len() != 9 {
		t.Error(z, e)
	}
	_ = big.Remove(0, 1)
	if z, e := big.Rehash(1, noSum); e != api.OK || state(z) != "[0 0 0 0 0 0 0 0] [0 2 3 4 5 6 7 8] 1 8 0" || big.Tombs() != 1 {
		t.Error(e)
	}
}

func TestErrors(t *testing.T) {
	for i, x := range []*swiss.Index{nil, {}} {
		s0, a := x.Find(1, nil)
		if s0 != 0 {
			t.Error(s0)
		}
		y, b := x.Rehash(3, nil)
		if a != api.ErrNil || b != api.ErrNil || y != nil || x.Insert(1, 1) != api.ErrNil || x.Remove(1, 1) != api.ErrNil || x.Replace(1, 1, 1) != api.ErrNil {
			t.Error(i)
		}
		c, s := x.Layout()
		if x.Groups() != 0 || x.Len() != 0 || x.Tombs() != 0 || c != nil || s != nil || x.Copy() != nil {
			t.Error(i)
		}
	}
	x := index(t, 1)
	if s, e := x.Find(1, nil); s != 0 || e != api.ErrArg {
		t.Error(s, e)
	}
	for _, n := range []int{0, 3, -1, 1 << 21} {
		if y, e := x.Rehash(n, noSum); y != nil || e != api.ErrArg {
			t.Error(n, e)
		}
	}
	if y, e := x.Rehash(1, nil); y != nil || e != api.ErrArg {
		t.Error(e)
	}
	if e := x.Remove(1, 0); e != api.ErrNone {
		t.Error(e)
	}
	_ = x.Insert(1, 7)
	if s, e := x.Find(1, func(uint32) bool { panic("find") }); s != 0 || e != api.ErrArg {
		t.Error(s, e)
	}
	if y, e := x.Rehash(1, func(uint32) uint64 { panic("rehash") }); y != nil || e != api.ErrArg || x.Len() != 1 {
		t.Error(e)
	}
}

func TestMany(t *testing.T) {
	for _, h := range []hash.Hasher{hash.New(3, false), hash.New(3, true)} {
		sum := func(s uint32) uint64 { return h.Sum(fmt.Sprint(s)) }
		x := index(t, 64)
		there := map[uint32]bool{}
		r := uint32(1)
		for step := range 3000 {
			r = r*1664525 + 1013904223
			s := r >> 24
			if there[s] {
				if e := x.Remove(sum(s), s); e != api.OK {
					t.Fatal(e)
				}
				delete(there, s)
			} else {
				if e := x.Insert(sum(s), s); e != api.OK {
					t.Fatal(e)
				}
				there[s] = true
			}
			if step%500 == 0 {
				y, e := x.Rehash(128, sum)
				if e != api.OK || y.Tombs() != 0 || y.Len() != x.Len() {
					t.Fatal(e)
				}
				x, _ = y.Rehash(64, sum)
			}
			if step%37 == 0 {
				for s := range uint32(256) {
					got, e := x.Find(sum(s), is(s))
					if there[s] != (e == api.OK) || there[s] && got != s {
						t.Fatal(s, got, e)
					}
				}
				if x.Len() != len(there) {
					t.Fatal(x.Len())
				}
			}
		}
	}
}
