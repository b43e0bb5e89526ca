package birth_test

import (
	"fmt"
	"testing"

	"cubbyhole/api"
	"cubbyhole/birth"
	"cubbyhole/compact"
	"cubbyhole/dict"
	"cubbyhole/hash"
)

func is(t *testing.T, want string) func(got ...any) {
	return func(got ...any) {
		t.Helper()
		if s := fmt.Sprint(got); s != "["+want+"]" {
			t.Errorf("got %s, want %s", s, want)
		}
	}
}

const top = 1<<64 - 1

func dictOf(births ...uint64) *dict.Dict {
	d := dict.New(hash.New(0, false))
	for i, b := range births {
		_, _ = d.Insert(api.Entry{Key: fmt.Sprint(i), Birth: b})
	}
	return d
}

func TestCounter(t *testing.T) {
	c := birth.New(0)
	is(t, "0")(c.Last())
	is(t, "1 0")(c.Next())
	is(t, "2 0")(c.Next())
	is(t, "2")(c.Last())
	d := c.Copy()
	is(t, "3 0")(d.Next())
	is(t, "2 3")(c.Last(), d.Last())
	is(t, "3 0")(c.Next())
	c = birth.New(top - 1)
	is(t, "18446744073709551615 0")(c.Next())
	is(t, "0 7")(c.Next())
	is(t, "0 7")(c.Next())
	is(t, "18446744073709551615")(c.Last())
	is(t, "0 7")(birth.New(top).Next())
	for _, c := range []*birth.Counter{nil, {}} {
		is(t, "0 1")(c.Next())
		is(t, "0 true")(c.Last(), c.Copy() == nil)
	}
}

func TestExamples(t *testing.T) {
	d := dictOf(2, 5, 9)
	is(t, "0 0")(birth.After(d, 0))
	is(t, "1 0")(birth.After(d, 2))
	is(t, "1 0")(birth.After(d, 4))
	is(t, "2 0")(birth.After(d, 8))
	is(t, "0 14")(birth.After(d, 9))
	is(t, "0 14")(birth.After(d, top))
	is(t, "1 0")(birth.Find(d, 5))
	is(t, "0 9")(birth.Find(d, 4))
	is(t, "0 9")(birth.Find(d, 0))
	is(t, "0 9")(birth.Find(d, 10))
	is(t, "1 0")(birth.Rank(d, 5))
	is(t, "3 0")(birth.Rank(d, 10))
	is(t, "0 0")(birth.Rank(d, 0))
	is(t, "2 0")(birth.Rank(d, 9))
	is(t, "true")(birth.Sorted(d))
	_, _ = d.Insert(api.Entry{Key: "x", Birth: 7})
	is(t, "false")(birth.Sorted(d))
	is(t, "3 0")(birth.After(d, 5))
	is(t, "2 0")(birth.After(d, 7))
	_, _ = d.Remove(1)
	is(t, "3 0")(birth.After(d, 2))
}

func TestUnsorted(t *testing.T) {
	d := dictOf(top, 7, 3, 7, 3, top, 1)
	is(t, "6 0")(birth.After(d, 0))
	is(t, "2 0")(birth.After(d, 1))
	is(t, "1 0")(birth.After(d, 3))
	is(t, "0 0")(birth.After(d, 7))
	is(t, "0 0")(birth.After(d, top-1))
	is(t, "0 14")(birth.After(d, top))
	is(t, "2 0")(birth.Find(d, 3))
	is(t, "1 0")(birth.Find(d, 7))
	is(t, "0 0")(birth.Find(d, top))
	is(t, "6 0")(birth.Find(d, 1))
	is(t, "5 0")(birth.Rank(d, top))
	is(t, "3 0")(birth.Rank(d, 7))
	is(t, "false false true true")(birth.Sorted(d), birth.Sorted(dictOf(1, 1)), birth.Sorted(dictOf()), birth.Sorted(dictOf(top)))
	is(t, "true true")(birth.Sorted(dictOf(1)), birth.Sorted(dictOf(1, 2)))
	is(t, "0 14")(birth.After(dictOf(), 0))
	is(t, "0 9")(birth.Find(dictOf(), 1))
	is(t, "0 0")(birth.Rank(dictOf(), 1))
	for _, d := range []*dict.Dict{nil, {}} {
		is(t, "true")(birth.Sorted(d))
		is(t, "0 1")(birth.After(d, top))
		is(t, "0 1")(birth.Find(d, 0))
		is(t, "0 1")(birth.Rank(d, 0))
	}
}

func TestGoingOver(t *testing.T) {
	d := dictOf(1, 2, 4, 8, 16, 32, 64)
	var seen []uint64
	for at := uint64(0); ; {
		slot, e := birth.After(d, at)
		if e != api.OK {
			break
		}
		x, _ := d.Get(slot)
		at = x.Birth
		seen = append(seen, at)
		switch at {
		case 2:
			_, _ = d.Remove(slot)
		case 4:
			_, _ = d.Remove(4)
			d, _, _ = compact.Dict(d)
		}
	}
	is(t, "[1 2 4 8 32 64]")(seen)
}
