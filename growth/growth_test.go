package growth_test

import (
	"fmt"
	"testing"

	"cubbyhole/api"
	"cubbyhole/growth"
)

func is(t *testing.T, want string) func(got ...any) {
	return func(got ...any) {
		t.Helper()
		if s := fmt.Sprint(got); s != "["+want+"]" {
			t.Errorf("got %s, want %s", s, want)
		}
	}
}

func TestLimitBoundGroups(t *testing.T) {
	is(t, "7 0")(growth.Limit(1))
	is(t, "28 0")(growth.Limit(4))
	is(t, "7340032 0")(growth.Limit(1 << 20))
	for _, n := range []int{3, 0, -1, 1 << 21, -1 << 63} {
		is(t, "0 2")(growth.Limit(n))
		is(t, "{0 false} 2")(growth.Insert(n, -1, 0))
		is(t, "{0 false} 2")(growth.Remove(n, -1, 0))
	}
	for live, want := range map[int]int{0: 16, 1: 32, 4: 32, 5: 64, 12: 64, 13: 128, growth.MaxLive: 1 << 25, 1<<22 - 4: 1 << 24, 1<<22 - 3: 1 << 25} {
		is(t, fmt.Sprint(want, " 0"))(growth.Bound(live))
	}
	for live, want := range map[int]int{0: 1, 7: 1, 8: 2, 14: 2, 15: 4, 56: 8, 57: 16, growth.MaxLive: 1 << 20, growth.MaxLive/2 + 1: 1 << 20, growth.MaxLive / 2: 1 << 19} {
		is(t, fmt.Sprint(want, " 0"))(growth.Groups(live))
	}
	for _, n := range []int{-1, growth.MaxLive + 1, 1<<63 - 1, -1 << 63} {
		is(t, "0 3")(growth.Bound(n))
		is(t, "0 3")(growth.Groups(n))
	}
}

func TestInsert(t *testing.T) {
	for _, c := range []struct {
		groups, live, tombs int
		want                string
	}{
		{1, 0, 0, "{1 false} 0"}, {1, 6, 0, "{1 false} 0"}, {1, 3, 4, "{1 true} 0"}, {1, 3, 3, "{1 false} 0"}, {1, 4, 3, "{2 true} 0"}, {1, 7, 0, "{2 true} 0"}, {1, 8, 0, "{2 true} 0"}, {1, 0, 8, "{1 true} 0"},
		{2, 7, 7, "{2 true} 0"}, {2, 8, 6, "{4 true} 0"}, {2, 7, 6, "{2 false} 0"}, {1, 5, 4, "{0 false} 3"}, {1, -1, 0, "{0 false} 3"}, {1, 0, -1, "{0 false} 3"}, {1, 9, -1, "{0 false} 3"}, {1, 1<<63 - 1, 1<<63 - 1, "{0 false} 3"}, {1, 1<<63 - 1, 1, "{0 false} 3"}, {1, 1, 1<<63 - 1, "{0 false} 3"},
		{1 << 20, 7 << 20, 0, "{0 false} 7"}, {1 << 20, 7<<20 - 1, 1, "{1048576 true} 0"}, {1 << 20, 7<<20 - 1, 0, "{1048576 false} 0"}, {1 << 20, 8 << 20, 0, "{0 false} 7"}, {1 << 20, 8 << 20, 1, "{0 false} 3"}, {1 << 19, 7 << 19, 0, "{1048576 true} 0"}, {1 << 20, 7 << 20, -1, "{0 false} 3"},
	} {
		is(t, c.want)(growth.Insert(c.groups, c.live, c.tombs))
	}
}

func TestRemove(t *testing.T) {
	for _, c := range []struct {
		groups, live, tombs int
		want                string
	}{
		{4, 4, 0, "{4 false} 0"}, {4, 3, 0, "{4 false} 0"}, {8, 4, 0, "{4 true} 0"}, {1, 0, 0, "{1 false} 0"}, {2, 0, 9, "{2 false} 0"}, {4, 0, 9, "{2 true} 0"}, {8, 5, 59, "{8 false} 0"}, {1 << 20, 0, 0, "{2 true} 0"},
		{1, 8, 0, "{1 false} 0"}, {1, 8, 1, "{0 false} 3"}, {1, -1, 3, "{0 false} 3"}, {1, 1, -1, "{0 false} 3"}, {1, 1<<63 - 1, 1<<63 - 1, "{0 false} 3"}, {1 << 20, 8 << 20, 0, "{1048576 false} 0"},
	} {
		is(t, c.want)(growth.Remove(c.groups, c.live, c.tombs))
	}
}

func TestConsequences(t *testing.T) {
	for groups := 1; groups <= 64; groups *= 2 {
		for live := range 8*groups + 1 {
			for tombs := range 8*groups - live + 1 {
				p, e := growth.Insert(groups, live, tombs)
				rest := tombs
				if p.Rehash {
					rest = 0
				}
				if e != api.OK || live+rest >= 8*p.Groups || !p.Rehash && p.Groups != groups {
					t.Fatal(groups, live, tombs, p, e)
				}
				b, _ := growth.Bound(live)
				c, _ := growth.Bound(live + 1)
				if 8*groups <= b && 8*p.Groups > c {
					t.Fatal("more lanes than the bound", groups, live, tombs, p)
				}
				p, e = growth.Remove(groups, live, tombs)
				if e != api.OK || 8*p.Groups > b || 8*p.Groups < live {
					t.Fatal(groups, live, tombs, p, e)
				}
			}
		}
	}
}
