package tenant_test

import (
	"fmt"
	"strconv"
	"strings"
	"testing"

	"cubbyhole/api"
	"cubbyhole/tenant"
)

func is(t *testing.T, want string) func(got ...any) {
	return func(got ...any) {
		t.Helper()
		if s := fmt.Sprint(got); s != "["+want+"]" {
			t.Errorf("got %s, want %s", s, want)
		}
	}
}

func house(t *testing.T, budget int) *tenant.House {
	t.Helper()
	h, e := tenant.New(budget)
	if e != api.OK {
		t.Fatal(e)
	}
	return h
}

func balance(from, to string, e api.Errno) string { return fmt.Sprint(from, ">", to, ":", int(e)) }

var v = []byte("v")

func TestExamples(t *testing.T) {
	h := house(t, 300)
	is(t, "0 0 7 50")(h.Add(0, "a", 100), h.Add(0, "b", 150), h.Add(0, "c", 51), h.Free())
	is(t, "0 0 0")(h.Set(1, "a", "k", v, 0), h.Set(1, "a", "l", v, 0), h.Set(1, "a", "m", v, 0))
	is(t, "[118] true 0")(h.Get(1, "a", "m"))
	is(t, "[] false 0")(h.Get(1, "b", "m"))
	is(t, "[{a 100 2 100 1} {b 150 0 0 0}]")(h.Tenants())
	is(t, "b>a:0 [{a 150 2 100 0} {b 100 0 0 0}] >:0 3")(balance(h.Balance(2, 50)), h.Tenants(), balance(h.Balance(2, 50)), h.Give(2, "b", "a", 100))
	is(t, "2 0")(h.Remove(2, "a"))
	is(t, "[{b 100 0 0 0}] 200")(h.Tenants(), h.Free())
}

func TestErrors(t *testing.T) {
	for _, n := range []int{0, -1, 1<<40 + 1} {
		h, e := tenant.New(n)
		is(t, "true 2")(h == nil, e)
	}
	for _, h := range []*tenant.House{nil, {}} {
		is(t, "1 1 1 >:1 [] 0 true")(h.Add(0, "", 0), h.Give(0, "", "", 0), h.Set(0, "", "", nil, 0), balance(h.Balance(0, 0)), h.Tenants(), h.Free(), h.Copy() == nil)
		is(t, "0 1")(h.Remove(0, ""))
		is(t, "[] false 1")(h.Get(0, "", ""))
		is(t, "false 1")(h.Delete(0, "", ""))
	}
	h := house(t, 1000)
	_ = h.Add(3, "a", 100)
	_ = h.Add(3, "b", 200)
	_ = h.Set(3, "a", "k", v, 5)
	long := make([]byte, 65537)
	is(t, "2 2 2 11 11 7 7")(h.Add(9, "1", 1), h.Add(9, "", 1), h.Add(9, "a", 0), h.Add(9, "a", 1), h.Add(9, "a", 5000), h.Add(9, "c", 701), h.Add(9, "c", 1<<62))
	is(t, "2 2 2 2 2 2 9 9 9 3 3 3")(h.Give(9, "1", "a", 1), h.Give(9, "a", "1", 1), h.Give(9, "a", "b", 0), h.Give(9, "a", "a", 1), h.Give(9, "x", "x", 1), h.Give(9, "a", "b", -5), h.Give(9, "x", "b", 1), h.Give(9, "a", "x", 500), h.Give(9, "x", "y", 1), h.Give(9, "a", "b", 100), h.Give(9, "a", "b", 101), h.Give(9, "a", "b", 1<<62))
	is(t, "2 2 9 9 5 12 9")(h.Set(9, "1", "k", v, 0), h.Set(9, "a", "", long, 0), h.Set(9, "x", "k", v, 0), h.Set(9, "x", "k", long, 0), h.Set(9, "a", "k", long, 0), h.Set(9, "a", "k", make([]byte, 52), 0), h.Set(9, "x", "k", make([]byte, 952), 0))
	is(t, ">:2 >:2")(balance(h.Balance(9, 0)), balance(h.Balance(9, -1)))
	is(t, "0 2")(h.Remove(9, ""))
	is(t, "0 9")(h.Remove(9, "x"))
	is(t, "[] false 2")(h.Get(9, "", "k"))
	is(t, "[] false 2")(h.Get(9, "a", ""))
	is(t, "[] false 9")(h.Get(9, "x", "k"))
	is(t, "false 2")(h.Delete(9, "", "k"))
	is(t, "false 2")(h.Delete(9, "a", strings.Repeat("k", 251)))
	is(t, "false 9")(h.Delete(9, "x", "k"))
	is(t, "[118] true 0")(h.Get(7, "a", "k")) // nothing has changed, not even the time
	is(t, "[] false 0")(h.Get(8, "a", "k"))
	is(t, "0")(h.Set(8, "a", "k", make([]byte, 51), 0))
	one := house(t, 1)
	is(t, "1 0")(one.Free(), one.Add(0, "a", 1))
	x := house(t, 1<<40)
	for i := range tenant.MaxTenants {
		is(t, "0")(x.Add(0, "n"+strconv.Itoa(i), 1))
	}
	is(t, "7 11 2")(x.Add(0, "z", 1), x.Add(0, "n3", 1), x.Add(0, "z", 0))
	_, _ = x.Remove(0, "n3")
	is(t, "0 0 n31")(x.Add(0, "z", 1<<40-31), x.Free(), x.Tenants()[24].Name)
}

func TestTimes(t *testing.T) {
	h := house(t, 1000)
	_ = h.Add(0, "b", 300)
	_ = h.Set(5, "b", "k", v, 3)
	_ = h.Add(7, "a", 300)
	_ = h.Set(2, "a", "x", v, 1) // at 7
	is(t, "[{a 300 1 50 0} {b 300 1 50 0}]")(h.Tenants())
	is(t, "false 0")(h.Delete(8, "a", "y"))
	is(t, "[{a 300 0 0 0} {b 300 0 0 0}]")(h.Tenants())
	_ = h.Set(8, "b", "k", v, 0)
	_ = h.Set(8, "b", "l", v, 4)
	is(t, "true 0")(h.Delete(9, "b", "k"))
	is(t, "false 0")(h.Delete(9, "b", "k"))
	is(t, "0 0")(h.Remove(12, "b"))
	is(t, "0")(h.Set(1, "a", "z", v, 2))
	is(t, "[118] true 0")(h.Get(13, "a", "z"))
	is(t, "[] false 0")(h.Get(14, "a", "z"))
	is(t, "0 [] 1000")(func() (any, any, any) { n, _ := h.Remove(1, "a"); return n, h.Tenants(), h.Free() }())
	is(t, ">:0")(balance(h.Balance(0, 1)))
}

func fill(h *tenant.House, name string, n int) {
	for i := range n {
		_ = h.Set(0, name, strconv.Itoa(i), nil, 0)
	}
}

func TestBalance(t *testing.T) {
	h := house(t, 2000)
	for _, n := range []string{"c", "a", "d", "b"} {
		_ = h.Add(0, n, 100)
	}
	fill(h, "b", 5) // 3 are evicted
	fill(h, "c", 5)
	fill(h, "d", 3)
	is(t, "[{a 100 0 0 0} {b 100 2 98 3} {c 100 2 98 3} {d 100 2 98 1}]")(h.Tenants())
	is(t, ">:0")(balance(h.Copy().Balance(0, 100)))
	x := h.Copy()
	is(t, "a>b:0")(balance(x.Balance(0, 60)))
	is(t, "[{a 40 0 0 0} {b 160 2 98 0} {c 100 2 98 0} {d 100 2 98 0}]")(x.Tenants())
	fill(x, "a", 9) // too big
	fill(x, "b", 4)
	is(t, "[{a 40 0 0 0} {b 160 3 147 3} {c 100 2 98 0} {d 100 2 98 0}]")(x.Tenants())
	is(t, "d>b:0")(balance(x.Balance(0, 60))) // a has not enough, and d is the greatest one
	is(t, "[{a 40 0 0 0} {b 220 3 147 0} {c 100 2 98 0} {d 40 0 0 0}]")(x.Tenants())
	is(t, "0 0")(h.Give(0, "b", "a", 60), h.Give(0, "a", "b", 1))
	is(t, "[{a 159 0 0 0} {b 41 0 0 5} {c 100 2 98 3} {d 100 2 98 1}]")(h.Tenants())
	is(t, "a>b:0 1600")(balance(h.Balance(0, 1)), h.Free())
	is(t, "[{a 158 0 0 0} {b 42 0 0 0} {c 100 2 98 0} {d 100 2 98 0}]")(h.Tenants())
	y := house(t, 100)
	_ = y.Add(0, "a", 100)
	fill(y, "a", 5)
	is(t, ">:0 [{a 100 2 98 0}]")(balance(y.Balance(0, 1)), y.Tenants())
}

func TestPressure(t *testing.T) {
	h := house(t, 1<<20)
	_ = h.Add(0, "a", 60)
	for i := range tenant.MaxPressure + 10 {
		if e := h.Set(0, "a", string([]byte{byte(i)}), nil, 0); e != api.OK {
			t.Fatal(e)
		}
	}
	is(t, "[{a 60 1 49 1000000}]")(h.Tenants())
}

func TestCopy(t *testing.T) {
	h := house(t, 300)
	_ = h.Add(0, "a", 100)
	_ = h.Set(0, "a", "k", v, 0)
	x := h.Copy()
	_ = x.Set(5, "a", "l", v, 0)
	_ = x.Set(5, "a", "m", v, 0)
	_ = x.Add(5, "b", 1)
	got, _, _ := x.Get(5, "a", "m")
	got[0] = 'w'
	is(t, "[118] true 0")(x.Get(5, "a", "m"))
	is(t, "[{a 100 1 50 0}] 200 [{a 100 2 100 1} {b 1 0 0 0}] 199")(h.Tenants(), h.Free(), x.Tenants(), x.Free())
	_ = h.Give(0, "a", "b", 1)
	_, _ = h.Remove(0, "a")
	is(t, "2 300")(len(x.Tenants()), h.Free())
}

// TestGiven looks at the pressure right after entries were evicted, and at the time of a new tenant.
func TestGiven(t *testing.T) {
	h := house(t, 1000)
	_ = h.Add(0, "a", 200)
	_ = h.Add(0, "b", 200)
	fill(h, "a", 4)
	is(t, "0 [{a 100 2 98 2} {b 300 0 0 0}]")(h.Give(0, "a", "b", 100), h.Tenants())
	fill(h, "b", 9) // 3 are evicted
	is(t, "a>b:0 [{a 50 1 49 0} {b 350 6 294 0}]")(balance(h.Balance(0, 50)), h.Tenants())
	_, _, _ = h.Get(1, "a", "k")
	is(t, "[{a 50 1 49 0} {b 350 6 294 0}]")(h.Tenants())
	x := house(t, 1000)
	_ = x.Add(7, "a", 100)
	is(t, "0")(x.Set(2, "a", "k", v, 1))
	is(t, "[118] true 0")(x.Get(7, "a", "k"))
	is(t, "[] false 0")(x.Get(8, "a", "k"))
}
