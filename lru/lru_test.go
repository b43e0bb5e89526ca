package lru_test

import (
	"fmt"
	"slices"
	"testing"

	"cubbyhole/lru"
)

func is(t *testing.T, want string) func(got ...any) {
	return func(got ...any) {
		t.Helper()
		if s := fmt.Sprint(got); s != "["+want+"]" {
			t.Errorf("got %s, want %s", s, want)
		}
	}
}

func all(l *lru.LRU) []uint32 { return slices.Collect(l.All()) }

func TestExamples(t *testing.T) {
	l := lru.New()
	is(t, "0 0 0 0")(l.Add(5), l.Add(2), l.Add(9), l.Use(5))
	is(t, "[2 9 5]")(all(l))
	is(t, "2 0")(l.Oldest())
	is(t, "5 0")(l.Newest())
	is(t, "11 9 0 9 2 false true")(l.Add(9), l.Use(7), l.Remove(9), l.Remove(9), l.Len(), l.Has(9), l.Has(5))
	is(t, "0")(l.Renumber([]uint32{0, 0, 4, 0, 0, 3}))
	is(t, "[4 3]")(all(l))
	is(t, "2")(l.Renumber([]uint32{0, 0, 0, 1, 1}))
	is(t, "[4 3]")(all(l))
	n := lru.New()
	is(t, "0 9")(n.Oldest())
	is(t, "0 9")(n.Newest())
	is(t, "2 0")(n.Add(4194304), n.Add(4194303))
	is(t, "4194303 0")(n.Oldest())
}

func TestErrors(t *testing.T) {
	for _, l := range []*lru.LRU{nil, {}} {
		is(t, "1 1 1 1")(l.Add(1<<32-1), l.Use(0), l.Remove(0), l.Renumber(nil))
		is(t, "0 1")(l.Oldest())
		is(t, "0 1")(l.Newest())
		is(t, "false 0 true []")(l.Has(0), l.Len(), l.Copy() == nil, all(l))
	}
	l := lru.New()
	is(t, "2 2 2 false")(l.Add(1<<22), l.Use(1<<22), l.Remove(1<<32-1), l.Has(1<<22))
	is(t, "9 9 9 9 0")(l.Use(0), l.Use(1<<22-1), l.Remove(0), l.Remove(1<<22-1), l.Len())
	is(t, "0")(l.Renumber(nil))
	is(t, "0 0 0")(l.Add(1), l.Add(3), l.Add(0))
	is(t, "2 2 2 2")(l.Renumber([]uint32{0, 1, 2}), l.Renumber([]uint32{1, 1, 2, 3}), l.Renumber([]uint32{1, 1 << 22, 2, 3}), l.Renumber(nil))
	is(t, "[1 3 0]")(all(l))
	is(t, "0")(l.Renumber([]uint32{7, 1<<22 - 1, 1 << 31, 0, 5, 5}))
	is(t, "[4194303 0 7] true false")(append([]any{all(l)}, l.Has(7), l.Has(1))...)
}

func TestIndependence(t *testing.T) {
	l := lru.New()
	for i := range uint32(5) {
		_ = l.Add(i * 100)
	}
	it := l.All()
	x := l.Copy()
	_ = l.Remove(200)
	_ = l.Use(0)
	for n := range it {
		is(t, "0")(n)
		break
	}
	is(t, "[0 100 200 300 400] [0 100 200 300 400] [100 300 400 0]")(slices.Collect(it), all(x), all(l))
	_ = x.Remove(400)
	_ = x.Add(7)
	is(t, "4 5 false true")(l.Len(), x.Len(), l.Has(7), l.Has(400))
}

// TestModel goes on with lists of different lengths, as a cache does.
func TestModel(t *testing.T) {
	var ls [5]*lru.LRU
	for i := range ls {
		ls[i] = lru.New()
	}
	var model []uint32
	r := uint32(9)
	for range 2000 {
		r = r*1664525 + 1013904223
		slot := r >> 27
		model = append(slices.DeleteFunc(model, func(s uint32) bool { return s == slot }), slot)
		for i, l := range ls {
			if l.Has(slot) {
				_ = l.Use(slot)
			} else {
				_ = l.Add(slot)
			}
			if l.Len() > i*3+1 {
				oldest, _ := l.Oldest()
				_ = l.Remove(oldest)
			}
			n := min(len(model), i*3+1)
			if !slices.Equal(all(l), model[len(model)-n:]) {
				t.Fatal(i, all(l), model)
			}
		}
	}
}
