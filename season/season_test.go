package season_test

import (
	"fmt"
	"testing"

	"cubbyhole/api"
	"cubbyhole/season"
)

func is(t *testing.T, want string) func(got ...any) {
	return func(got ...any) {
		t.Helper()
		if s := fmt.Sprint(got); s != "["+want+"]" {
			t.Errorf("got %s, want %s", s, want)
		}
	}
}

// four returns four numbers from their parts.
func four(p ...int) (x [4]api.Gauss) {
	for i := range x {
		x[i] = api.Gauss{Re: p[2*i], Im: p[2*i+1]}
	}
	return
}

const most = 1 << 20

func TestExamples(t *testing.T) {
	is(t, "[{10 0} {-2 2} {-2 0} {-2 -2}] 0")(season.Transform(four(1, 0, 2, 0, 3, 0, 4, 0)))
	is(t, "[{1 0} {2 0} {3 0} {4 0}] 0")(season.Inverse(four(10, 0, -2, 2, -2, 0, -2, -2)))
	is(t, "[{0 0} {0 0} {0 0} {0 0}] 10")(season.Inverse(four(1, 0, 0, 0, 0, 0, 0, 0)))
	is(t, "[{0 0} {0 0} {0 0} {0 0}] 10")(season.Inverse(four(0, 4, 0, 1, 0, 0, 0, 0)))
	is(t, "[{8 0} {5 0} {6 0} {7 0}] 0")(season.Product(four(0, 0, 1, 0, 0, 0, 0, 0), four(5, 0, 6, 0, 7, 0, 8, 0)))
	c, e := season.New(10)
	is(t, "0 0 0 0 0 [3 1 3 1] 2")(e, c.Use(5, 3), c.Use(15, 1), c.Use(25, 3), c.Use(79, 1), c.Counts(), c.Season())
	is(t, "0 0")(c.Best())
	is(t, "[{8 0} {0 0} {4 0} {0 0}] 0")(c.Wave())
	is(t, "3 8 0")(c.Share(0))
	is(t, "1 8 0")(c.Share(35))
}

func TestTurn(t *testing.T) {
	x := four(1, 2, 3, 4, 5, 6, 7, 1<<62)
	for n, want := range map[int]int{0: 0, 1: 1, 2: 2, 3: 3, 4: 0, -1: 3, -2: 2, -4: 0, 5: 1, 1<<63 - 1: 3, -1 << 63: 0, -1<<63 + 1: 1} {
		y := season.Turn(x, n)
		for j := range 4 {
			if y[(j+want)%4] != x[j] {
				t.Error(n, y)
			}
		}
	}
}

func TestErrors(t *testing.T) {
	for i := range 8 {
		for _, n := range []int{most + 1, -most - 1, 1 << 62, -1 << 63} {
			p := make([]int, 8)
			p[i] = n
			x := four(p...)
			for _, f := range []func([4]api.Gauss) ([4]api.Gauss, api.Errno){season.Transform, season.Inverse, func(x [4]api.Gauss) ([4]api.Gauss, api.Errno) { return season.Product(x, [4]api.Gauss{}) }, func(x [4]api.Gauss) ([4]api.Gauss, api.Errno) { return season.Product([4]api.Gauss{}, x) }} {
				if y, e := f(x); y != ([4]api.Gauss{}) || e != api.ErrArg {
					t.Error(i, n, y, e)
				}
			}
		}
	}
	all := four(most, -most, most, -most, most, -most, most, -most)
	is(t, "[{4194304 -4194304} {0 0} {0 0} {0 0}] 0")(season.Transform(all))
	is(t, "[{1048576 -1048576} {0 0} {0 0} {0 0}] 0")(season.Inverse(all))
	is(t, "[{0 -8796093022208} {0 -8796093022208} {0 -8796093022208} {0 -8796093022208}] 0")(season.Product(all, all))
	for _, w := range []int{0, -1, 1<<32 + 1} {
		c, e := season.New(w)
		is(t, "true 2")(c == nil, e)
	}
	for _, c := range []*season.Counter{nil, {}} {
		good, _ := season.New(1)
		is(t, "1 1 1 [0 0 0 0] 0 true")(c.Use(api.Never, -1), c.Merge(good), good.Merge(c), c.Counts(), c.Season(), c.Copy() == nil)
		is(t, "[{0 0} {0 0} {0 0} {0 0}] 1")(c.Wave())
		is(t, "0 1")(c.Best())
		is(t, "0 0 1")(c.Share(0))
	}
}

func mul(a, b api.Gauss) api.Gauss {
	return api.Gauss{Re: a.Re*b.Re - a.Im*b.Im, Im: a.Re*b.Im + a.Im*b.Re}
}
func add(a, b api.Gauss) api.Gauss { return api.Gauss{Re: a.Re + b.Re, Im: a.Im + b.Im} }
func norm(x [4]api.Gauss) (n int) {
	for _, g := range x {
		n += g.Re*g.Re + g.Im*g.Im
	}
	return
}

func TestTransforms(t *testing.T) {
	r := uint64(7)
	next := func(bound int) int {
		r = r*6364136223846793005 + 1442695040888963407
		return int(r>>33)%(2*bound+1) - bound
	}
	random := func(bound int) (x [4]api.Gauss) {
		for i := range x {
			x[i] = api.Gauss{Re: next(bound), Im: next(bound)}
		}
		return
	}
	i := api.Gauss{Im: 1}
	for _, bound := range []int{1, 100, most / 4, most} {
		for range 200 {
			x, y := random(bound), random(bound)
			fx, e := season.Transform(x)
			fy, f := season.Transform(y)
			z, g := season.Product(x, y)
			if e != api.OK || f != api.OK || g != api.OK {
				t.Fatal(e, f, g)
			}
			for k := range 4 {
				var sum, cyclic api.Gauss
				for j := range 4 {
					w := api.Gauss{Re: 1}
					for range (4 - k) * j {
						w = mul(w, i)
					}
					sum = add(sum, mul(x[j], w))
					cyclic = add(cyclic, mul(x[j], y[(k-j+4)%4]))
				}
				if fx[k] != sum || z[k] != cyclic {
					t.Fatal(x, k, fx[k], sum)
				}
			}
			if norm(fx) != 4*norm(x) {
				t.Fatal(x)
			}
			if bound <= most/4 {
				is(t, fmt.Sprint(x, 0))(season.Inverse(fx))
			}
			if bound <= 100 {
				fz, _ := season.Transform(z)
				turned, _ := season.Transform(season.Turn(x, 1))
				w := api.Gauss{Re: 1}
				for k := range 4 {
					if fz[k] != mul(fx[k], fy[k]) || turned[k] != mul(fx[k], w) {
						t.Fatal(x, y, k)
					}
					w = mul(w, api.Gauss{Im: -1})
				}
			}
		}
	}
}

func TestText(t *testing.T) {
	for s, g := range map[string]api.Gauss{"-3+2i": {Re: -3, Im: 2}, "0-1i": {Im: -1}, "4+0i": {Re: 4}, "0+0i": {}, "1048576-1048576i": {Re: most, Im: -most}, "-1048576+1048576i": {Re: -most, Im: most}, "-10-20i": {Re: -10, Im: -20}} {
		text, e := season.Text(g)
		x, f := season.Parse(s)
		if text != s || e != api.OK || x != g || f != api.OK {
			t.Error(s, text, e, x, f)
		}
	}
	for _, g := range []api.Gauss{{Re: most + 1}, {Im: -most - 1}, {Re: -1 << 63}, {Im: 1<<63 - 1}} {
		s, e := season.Text(g)
		is(t, "true 2")(s == "", e)
	}
	for _, s := range []string{"", "i", "4", "4i", "-0+1i", "0-0i", "+1+1i", "01+1i", "1+01i", "1+1", "1+1j", "1+1ii", "1+-1i", "1 +1i", "1+1i ", "1048577+0i", "0+1048577i", "99999999999999999999+0i", "--1+1i", "+", "-i", "1+i", "1--1i", "1.0+1i", "1+2+3i", "0x1+1i"} {
		if g, e := season.Parse(s); g != (api.Gauss{}) || e != api.ErrFormat {
			t.Error(s, g, e)
		}
	}
}

func TestCounter(t *testing.T) {
	c, _ := season.New(1 << 32)
	is(t, "0 9")(c.Best())
	is(t, "0 0 9")(c.Share(3))
	is(t, "0 0 9")(c.Share(api.Never))
	is(t, "0 [{0 0} {0 0} {0 0} {0 0}]")(c.Season(), first(c.Wave()))
	is(t, "2 2 3 0 0 7 7 7 0")(c.Use(0, -1), c.Use(api.Never, -1), c.Use(api.Never, 1), c.Use(1<<32-1, most), c.Use(1<<32, 5), c.Use(4<<32, 1), c.Use(0, 1<<63-1), c.Use(1<<32, most-4), c.Use(1<<32, most-5))
	is(t, "[1048576 1048576 0 0] 1")(c.Counts(), c.Season())
	is(t, "0 0")(c.Best())
	is(t, "1 2 0")(c.Share(5 << 32))
	is(t, "0 1 0")(c.Share(api.Never)) // the quarter of the greatest number is 3
	is(t, "0 0 7")(c.Use(0, 0), c.Use(api.Never-1, 0), c.Use(1, 1))
	x := c.Copy()
	d, _ := season.New(1 << 32)
	_ = d.Use(2<<32, 7)
	is(t, "0 [1048576 1048576 7 0] [0 0 7 0]")(c.Merge(d), c.Counts(), d.Counts())
	is(t, "7 [1048576 1048576 7 0]")(c.Merge(c), c.Counts())
	is(t, "0 [0 0 14 0]")(d.Merge(d), d.Counts())
	other, _ := season.New(5)
	is(t, "2 [0 0 0 0]")(other.Merge(d), other.Counts())
	_ = x.Use(3<<32, 1)
	is(t, "[1048576 1048576 7 0] [1048576 1048576 0 1]")(c.Counts(), x.Counts())
	is(t, "1 2097153 0")(x.Share(3 << 32))
	s, _ := season.New(3)
	_ = s.Use(api.Never-1, 4) // a third of 2^64 - 2 is a multiple of 4
	_ = s.Use(3, 2)
	is(t, "[4 2 0 0]")(s.Counts())
}

func first(x [4]api.Gauss, _ api.Errno) [4]api.Gauss { return x }

func TestSeason(t *testing.T) {
	for _, c := range []struct {
		counts [4]int
		want   api.SeasonKind
	}{{[4]int{}, 0}, {[4]int{5, 5, 5, 5}, 0}, {[4]int{1, 0, 0, 0}, 1}, {[4]int{3, 1, 3, 1}, 2}, {[4]int{3, 2, 1, 2}, 1}, {[4]int{1, 0, 1, 1}, 1}, {[4]int{2, 0, 1, 0}, 2}, {[4]int{0, 4, 2, 4}, 2}, {[4]int{2, 0, 0, 0}, 1}, {[4]int{3, 0, 1, 0}, 2}, {[4]int{7, 0, 1, 0}, 1}, {[4]int{6, 0, 1, 0}, 1}, {[4]int{5, 0, 1, 0}, 2}, {[4]int{2, 1, 1, 0}, 1}} {
		x, _ := season.New(1)
		for i, n := range c.counts {
			_ = x.Use(api.Time(i), n)
		}
		w, e := x.Wave()
		if x.Season() != c.want || e != api.OK {
			t.Error(c, x.Season(), w)
		}
	}
	x, _ := season.New(1)
	_ = x.Use(2, 5)
	_ = x.Use(1, 5)
	_ = x.Use(3, 2)
	is(t, "1 0")(x.Best())
	is(t, "5 12 0")(x.Share(2))
	is(t, "1 6 0")(x.Share(7))
	is(t, "0 1 0")(x.Share(0))
}
