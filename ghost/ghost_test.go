package ghost_test

import (
	"fmt"
	"slices"
	"testing"

	"cubbyhole/api"
	"cubbyhole/ghost"
)

func is(t *testing.T, want string) func(got ...any) {
	return func(got ...any) {
		t.Helper()
		if s := fmt.Sprint(got); s != "["+want+"]" {
			t.Errorf("got %s, want %s", s, want)
		}
	}
}

func listOf(t *testing.T, most int, keys ...uint32) *ghost.Ghost {
	t.Helper()
	g, e := ghost.New(most)
	if e != api.OK {
		t.Fatal(e)
	}
	for _, k := range keys {
		if _, _, e := g.Add(k); e != api.OK {
			t.Fatal(e)
		}
	}
	return g
}

func TestExamples(t *testing.T) {
	g := listOf(t, 3)
	for _, k := range []uint32{7, 8, 9, 7} {
		is(t, "0 false 0")(g.Add(k))
	}
	is(t, "[7 9 8]")(g.Keys())
	is(t, "8 true 0")(g.Add(5))
	is(t, "false true [5 7 9] 3 3")(g.Has(8), g.Has(5), g.Keys(), g.Len(), g.Most())
	is(t, "true 0")(g.Remove(7))
	is(t, "false 0")(g.Remove(7))
	is(t, "9 0")(g.Pop())
	is(t, "[5]")(g.Keys())
	is(t, "[5] 0")(g.Resize(0))
	is(t, "4 true 0")(g.Add(4))
	is(t, "0 9")(g.Pop())
	is(t, "[] 2")(g.Resize(-1))
	is(t, "0 0 [] false")(g.Len(), g.Most(), g.Keys(), g.Has(4))
}

func TestErrors(t *testing.T) {
	for _, g := range []*ghost.Ghost{nil, {}} {
		is(t, "0 false 1")(g.Add(1))
		is(t, "false 1")(g.Remove(1))
		is(t, "0 1")(g.Pop())
		is(t, "[] 1")(g.Resize(-1))
		is(t, "false 0 0 [] true")(g.Has(1), g.Len(), g.Most(), g.Keys(), g.Copy() == nil)
	}
	for _, n := range []int{-1, 4097, 1 << 40, -1 << 63} {
		if g, e := ghost.New(n); g != nil || e != api.ErrArg {
			t.Error(n, e)
		}
		g := listOf(t, 2, 1, 2)
		is(t, "[] 2")(g.Resize(n))
		is(t, "[2 1] 2")(g.Keys(), g.Most())
	}
	is(t, "0 true 0")(listOf(t, 0).Add(0))
	is(t, "4294967295 true 0")(listOf(t, 1, 1<<32-1).Add(0))
}

func TestResize(t *testing.T) {
	g := listOf(t, 5, 1, 2, 3, 4, 5)
	is(t, "[1 2] 0")(g.Resize(3))
	is(t, "[5 4 3]")(g.Keys())
	is(t, "[] 0")(g.Resize(4096))
	for k := range uint32(5000) {
		_, _, _ = g.Add(k + 10)
	}
	l := g.Keys()
	is(t, "4096 4096 5009 914")(g.Len(), len(l), l[0], l[4095])
	l, _ = g.Resize(1)
	is(t, "4095 914 5008 [5009]")(len(l), l[0], l[4094], g.Keys())
}

func TestCopy(t *testing.T) {
	g := listOf(t, 3, 1, 2, 3)
	x := g.Copy()
	_, _, _ = x.Add(4)
	_, _ = x.Resize(2)
	_, _ = g.Remove(2)
	is(t, "[3 1] 3 [4 3] 2")(g.Keys(), g.Most(), x.Keys(), x.Most())
	_, _, _ = g.Add(9)
	g.Keys()[0] = 77
	is(t, "[9 3 1] [4 3]")(g.Keys(), x.Keys())
}

func TestModel(t *testing.T) {
	g := listOf(t, 5)
	most := 5
	var model []uint32
	r := uint32(12)
	for step := range 5000 {
		r = r*1664525 + 1013904223
		key := r >> 28
		i := slices.Index(model, key)
		switch op := r >> 10 % 8; {
		case op < 4:
			if i >= 0 {
				model = slices.Delete(model, i, i+1)
			}
			model = slices.Insert(model, 0, key)
			want := "0 false 0"
			if len(model) > most {
				want = fmt.Sprint(model[most], true, 0)
				model = model[:most]
			}
			is(t, want)(g.Add(key))
		case op == 4:
			is(t, fmt.Sprint(i >= 0, 0))(g.Remove(key))
			if i >= 0 {
				model = slices.Delete(model, i, i+1)
			}
		case op == 5 && len(model) > 0:
			is(t, fmt.Sprint(model[len(model)-1], 0))(g.Pop())
			model = model[:len(model)-1]
		case op == 6 && step%9 == 0:
			most = int(r >> 8 % 9)
			out := []uint32{}
			for len(model) > most {
				out = append(out, model[len(model)-1])
				model = model[:len(model)-1]
			}
			is(t, fmt.Sprint(out, 0))(g.Resize(most))
		}
		if !slices.Equal(g.Keys(), model) || g.Len() != len(model) || g.Has(key) != slices.Contains(model, key) {
			t.Fatal(step, g.Keys(), model)
		}
	}
}
