package bloom_test

import (
	"fmt"
	"strconv"
	"testing"

	"cubbyhole/api"
	"cubbyhole/bloom"
	"cubbyhole/hash"
)

func is(t *testing.T, want string) func(got ...any) {
	return func(got ...any) {
		t.Helper()
		if s := fmt.Sprint(got); s != "["+want+"]" {
			t.Errorf("got %s, want %s", s, want)
		}
	}
}

func filterOf(t *testing.T, bits, hashes int, seed uint64) *bloom.Filter {
	t.Helper()
	f, e := bloom.New(bits, hashes, seed)
	if e != api.OK {
		t.Fatal(e)
	}
	return f
}

func TestExamples(t *testing.T) {
	f, g := filterOf(t, 64, 3, 0), filterOf(t, 64, 3, 0)
	is(t, "[31 32 33] 0")(f.Places("a"))
	is(t, "[0 1 2] 0")(f.Places(""))
	is(t, "true 0")(f.Add("a"))
	is(t, "false 0")(f.Add("a"))
	is(t, "true false 3 [15032385536]")(f.Has("a"), f.Has(""), f.Ones(), f.Words())
	is(t, "true 0")(g.Add(""))
	is(t, "0 [15032385543] [7]")(f.Join(g), f.Words(), g.Words())
	is(t, "0 false 0 1")(f.Clear(), f.Has("a"), f.Ones(), f.Join(nil))
	is(t, "10 10 10")(f.Join(filterOf(t, 64, 2, 0)), f.Join(filterOf(t, 128, 3, 0)), f.Join(filterOf(t, 64, 3, 1)))
}

func TestErrors(t *testing.T) {
	for _, f := range []*bloom.Filter{nil, {}} {
		is(t, "false 1")(f.Add("a"))
		is(t, "[] 1")(f.Places("a"))
		is(t, "1 1 1 false 0 [] true")(f.Join(f), f.Join(filterOf(t, 64, 1, 0)), f.Clear(), f.Has("a"), f.Ones(), f.Words(), f.Copy() == nil)
		is(t, "1")(filterOf(t, 64, 1, 0).Join(f))
	}
	for _, c := range [][2]int{{32, 3}, {96, 3}, {64, 0}, {64, 9}, {0, 1}, {-64, 1}, {1 << 21, 1}, {64, -1}, {-1 << 63, 1}, {1 << 40, 1}} {
		if f, e := bloom.New(c[0], c[1], 0); f != nil || e != api.ErrArg {
			t.Error(c, e)
		}
	}
	is(t, "16384 1")(len(filterOf(t, 1<<20, 8, 0).Words()), len(filterOf(t, 64, 1, 0).Words()))
}

func TestPlaces(t *testing.T) {
	for _, key := range []string{"", "a", "xyz", "\xff\x00"} {
		f := filterOf(t, 1<<20, 8, 1<<63+5)
		h := hash.New(1<<63+5, false).Sum(key)
		a, b := h%(1<<32), h>>32
		if b%2 == 0 {
			b++
		}
		var want []uint64
		for i := range uint64(8) {
			want = append(want, (a+i*b)%(1<<20))
		}
		is(t, fmt.Sprint(want, 0))(f.Places(key))
	}
}

func TestModel(t *testing.T) {
	f, g := filterOf(t, 256, 4, 7), filterOf(t, 256, 4, 7)
	var bits [256]bool
	ones := 0
	for i := range 60 {
		key := strconv.Itoa(i)
		p, _ := f.Places(key)
		all := true
		for _, n := range p {
			all = all && bits[n]
		}
		is(t, fmt.Sprint(all))(f.Has(key))
		is(t, fmt.Sprint(!all, 0))(f.Add(key))
		for _, n := range p {
			if !bits[n] {
				bits[n] = true
				ones++
			}
		}
		w := f.Words()
		for n := range bits {
			if w[n/64]>>(n%64)&1 == 1 != bits[n] {
				t.Fatal(i, n)
			}
		}
		is(t, fmt.Sprint(ones, true))(f.Ones(), f.Has(key))
		w[0] = 0
		if i%2 == 0 {
			_, _ = g.Add(key)
		}
	}
	x := g.Copy()
	is(t, "0 true")(g.Join(f), fmt.Sprint(f.Words()) == fmt.Sprint(g.Words()))
	is(t, "0 false 0 0")(x.Join(x), x.Ones() == g.Ones(), f.Clear(), f.Ones())
	is(t, fmt.Sprint(ones))(g.Ones())
}
