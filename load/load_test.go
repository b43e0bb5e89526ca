package load_test

import (
	"fmt"
	"slices"
	"testing"

	"cubbyhole/api"
	"cubbyhole/load"
)

func is(t *testing.T, want string) func(got ...any) {
	return func(got ...any) {
		t.Helper()
		if s := fmt.Sprint(got); s != "["+want+"]" {
			t.Errorf("got %s, want %s", s, want)
		}
	}
}

const (
	loop, scan, even     = api.LoadLoop, api.LoadScan, api.LoadEven
	skew, phases, mixed_ = api.LoadSkew, api.LoadPhases, api.LoadMixed
)

func of(kind api.LoadKind, keys, requests, part int, seed uint64) api.Load {
	return api.Load{Kind: kind, Keys: keys, Requests: requests, Part: part, Seed: seed}
}

func TestNumber(t *testing.T) {
	is(t, "48271 182605794 1291394886 48271 96542 0 0")(load.Number(0, 0), load.Number(0, 1), load.Number(0, 2), load.Number(2147483646, 0), load.Number(1, 0), load.Number(0, -1), load.Number(0, 1<<40+1))
	is(t, "0 0")(load.Number(7, -1<<63), load.Number(7, 1<<63-1))
	for _, seed := range []uint64{0, 1, 2147483645, 2147483647, 1<<64 - 1} {
		x := seed%(1<<31-2) + 1
		for i := range 300 {
			x = x * 48271 % (1<<31 - 1)
			if got := load.Number(seed, i); got != x {
				t.Fatal(seed, i, got, x)
			}
		}
		// the numbers come again after 2^31 - 2 of them
		if load.Number(seed, 1<<31-2) != load.Number(seed, 0) || load.Number(seed, 1<<40) != load.Number(seed, 1<<40%(1<<31-2)) {
			t.Error(seed)
		}
	}
}

func TestMake(t *testing.T) {
	is(t, "[0 1 2 0 1] 0")(load.Make(of(loop, 3, 5, 0, 0)))
	is(t, "[0 1 2 3] 0")(load.Make(of(scan, 5, 4, 0, 0)))
	is(t, "[1 4 6] 0")(load.Make(of(even, 10, 3, 0, 0)))
	is(t, "[1] 0")(load.Make(of(skew, 10, 1, 2, 0)))
	is(t, "[1 3 6] 0")(load.Make(of(phases, 10, 3, 3, 0)))
	is(t, "[1 5 1 6] 0")(load.Make(of(mixed_, 10, 4, 1, 0)))
	is(t, "[] 0")(load.Make(of(phases, 10, 0, 3, 0)))
	for _, l := range []api.Load{of(even, 7, 300, 0, 5), of(skew, 33, 300, 1, 9), of(skew, 33, 300, 8, 1<<63), of(phases, 64, 300, 64, 1), of(phases, 65, 301, 7, 2), of(mixed_, 2, 300, 4096, 1), of(mixed_, 13, 300, 5, 77), of(loop, 1, 300, 0, 0), of(scan, 4096, 4096, 0, 0)} {
		trace, e := load.Make(l)
		if e != api.OK || len(trace) != l.Requests || !load.Valid(l) {
			t.Fatal(l, e)
		}
		x := func(i, m int) int { return int(load.Number(l.Seed, i)) % m }
		k, p := l.Keys, l.Part
		for i, key := range trace {
			want := 0
			switch l.Kind {
			case loop:
				want = i % k
			case scan:
				want = i
			case even:
				want = x(i, k)
			case skew:
				want = k
				for j := i * (p + 1); j < (i+1)*(p+1); j++ {
					want = min(want, x(j, k))
				}
			case phases:
				want = i*p/l.Requests*(k/p) + x(i, k/p)
			case mixed_:
				if i/p%2 == 0 {
					want = min(x(2*i, k/2), x(2*i+1, k/2))
				} else {
					want = k/2 + (i/p/2*p+i%p)%(k-k/2)
				}
			}
			if int(key) != want || want >= k {
				t.Fatal(l, i, key, want)
			}
		}
		if l.Kind != phases {
			l.Requests /= 2
			half, _ := load.Make(l)
			is(t, "true")(slices.Equal(half, trace[:len(half)]))
		}
	}
}

func TestValid(t *testing.T) {
	for _, l := range []api.Load{of(loop, 4096, 4096, 0, 0), of(scan, 1, 1, 0, 0), of(scan, 1, 0, 0, 0), of(even, 1, 1, 0, 1<<64-1), of(skew, 1, 1, 1, 1), of(skew, 1, 1, 8, 1), of(phases, 64, 1, 64, 1), of(phases, 3, 1, 3, 1), of(phases, 3, 5, 1, 1), of(mixed_, 2, 1, 1, 1), of(mixed_, 2, 1, 4096, 1)} {
		_, e := load.Make(l)
		s, f := load.Text(l)
		x, g := load.Parse(s)
		if !load.Valid(l) || e != api.OK || f != api.OK || g != api.OK || x != l {
			t.Error(l, e, f, s)
		}
	}
	for _, l := range []api.Load{
		{}, of(0, 1, 1, 0, 0), of(7, 1, 1, 0, 0), of(-1, 1, 1, 0, 0), of(loop, 0, 1, 0, 0), of(loop, 4097, 1, 0, 0), of(loop, 1, -1, 0, 0), of(loop, 1, 4097, 0, 0), of(loop, 1, 1, 1, 0), of(loop, 1, 1, 0, 1), of(scan, 5, 6, 0, 0), of(scan, 5, 5, 0, 1), of(scan, 5, 5, 1, 0),
		of(even, 1, 1, 1, 0), of(even, 1, 1, -1, 0), of(skew, 1, 1, 0, 0), of(skew, 1, 1, 9, 0), of(phases, 64, 1, 0, 0), of(phases, 100, 1, 65, 0), of(phases, 3, 1, 4, 0), of(mixed_, 1, 1, 1, 0), of(mixed_, 2, 1, 0, 0), of(mixed_, 2, 1, 4097, 0), of(even, -5, 1, 0, 0), of(mixed_, 2, 1<<62, 1, 0),
	} {
		trace, e := load.Make(l)
		s, f := load.Text(l)
		if load.Valid(l) || trace != nil || e != api.ErrArg || s != "" || f != api.ErrArg {
			t.Error(l, e, f)
		}
	}
}

func TestCounts(t *testing.T) {
	is(t, "[2 2 1 0] 0")(load.Counts([]uint32{0, 1, 2, 0, 1}, 4))
	is(t, "[] 3")(load.Counts([]uint32{4}, 4))
	is(t, "[] 3")(load.Counts([]uint32{1<<32 - 1}, 4096))
	is(t, "[] 2")(load.Counts([]uint32{4}, 0))
	is(t, "[] 2")(load.Counts(nil, 4097))
	is(t, "[] 2")(load.Counts(nil, -1))
	is(t, "[] 5")(load.Counts(make([]uint32, 4097), 0))
	is(t, "[4096] 0")(load.Counts(make([]uint32, 4096), 1))
	is(t, "[0] 0")(load.Counts(nil, 1))
}

func TestText(t *testing.T) {
	is(t, "skew keys=10 requests=1 part=2 seed=7 0")(spaced(load.Text(of(skew, 10, 1, 2, 7))))
	for s, l := range map[string]api.Load{
		"loop keys=3 requests=5 part=0 seed=0": of(loop, 3, 5, 0, 0), "scan keys=3 requests=0 part=0 seed=0": of(scan, 3, 0, 0, 0), "even keys=3 requests=5 part=0 seed=18446744073709551615": of(even, 3, 5, 0, 1<<64-1),
		"phases keys=3 requests=5 part=2 seed=9": of(phases, 3, 5, 2, 9), "mixed keys=3 requests=5 part=4096 seed=1": of(mixed_, 3, 5, 4096, 1),
	} {
		x, e := load.Parse(s)
		y, f := load.Text(l)
		if x != l || e != api.OK || y != s || f != api.OK {
			t.Error(s, x, e, y, f)
		}
	}
	for _, s := range []string{
		"", "loop keys=03 requests=5 part=0 seed=0", "loop keys=3 requests=5 part=0", "loop keys=3 requests=5 part=0 seed=0 ", " loop keys=3 requests=5 part=0 seed=0", "loop keys=3 part=0 requests=5 seed=0", "Loop keys=3 requests=5 part=0 seed=0", "keys=3 requests=5 part=0 seed=0",
		"loop keys=3 requests=5 part=0 seed=1", "scan keys=3 requests=5 part=0 seed=0", "even keys=3 requests=5 part=0 seed=18446744073709551616", "loop keys=+3 requests=5 part=0 seed=0", "loop keys=3 requests=-0 part=0 seed=0", "loop  keys=3 requests=5 part=0 seed=0", "loop keys=3 requests=5 part=0 seed=0\n",
		"loop keys=3 requests=5 part= seed=0", "loop keys=x requests=5 part=0 seed=0", "loop=1 keys=3 requests=5 part=0 seed=0", "loop keys=3 requests=5 part=0 seed=0 seed=0",
	} {
		if l, e := load.Parse(s); l != (api.Load{}) || e != api.ErrFormat {
			t.Error(s, l, e)
		}
	}
}

func spaced(s string, e api.Errno) string { return fmt.Sprint(s, " ", int(e)) }
