package contest_test

import (
	"fmt"
	"slices"
	"testing"

	"cubbyhole/api"
	"cubbyhole/arc"
	"cubbyhole/belady"
	"cubbyhole/contest"
	"cubbyhole/lfu"
	"cubbyhole/load"
	"cubbyhole/reuse"
	"cubbyhole/second"
	"cubbyhole/tiny"
	"cubbyhole/twoq"
)

func is(t *testing.T, want string) func(got ...any) {
	return func(got ...any) {
		t.Helper()
		if s := fmt.Sprint(got); s != "["+want+"]" {
			t.Errorf("got %s, want %s", s, want)
		}
	}
}

const (
	lru, seg, best = api.PolicyLRU, api.PolicySegment, api.PolicyBest
	loop           = api.LoadLoop
)

var trace = []uint32{1, 2, 3, 1, 4, 2, 1, 3}

func TestExamples(t *testing.T) {
	is(t, "{1 2 {8 0}} 0")(contest.Run(lru, 2, trace))
	is(t, "{1 3 {8 2}} 0")(contest.Run(lru, 3, trace))
	is(t, "{8 2 {8 2}} 0")(contest.Run(best, 2, trace))
	is(t, "{5 3 {8 2}} 0")(contest.Run(api.PolicySecond, 3, trace))
	is(t, "[{false false 0} {true false 0} {false false 0} {false true 2} {true false 0}] 0")(contest.Turns(seg, 2, []uint32{1, 1, 2, 3, 1}))
	l, e := contest.Table([]api.PolicyKind{lru, best}, []int{1, 2}, api.Load{Kind: loop, Keys: 2, Requests: 4})
	is(t, "[{1 1 {4 0}} {1 2 {4 2}} {8 1 {4 0}} {8 2 {4 2}}] 0")(l, e)
	is(t, "[{1 2 {4 2}} {8 2 {4 2}} {1 1 {4 0}} {8 1 {4 0}}]")(contest.Rank(l))
	is(t, "{1 1 {4 0}}")(l[0])
	for _, c := range []struct {
		kind api.PolicyKind
		size int
	}{{best, 3}, {api.PolicyTiny, 1}, {lru, 0}, {0, 3}, {9, 3}, {-1, 3}, {lru, 1025}, {seg, 0}, {api.PolicyArc, -1}, {api.PolicyLFU, 1 << 40}} {
		if p, e := contest.New(c.kind, c.size); p != nil || e != api.ErrArg {
			t.Error(c, p, e)
		}
	}
}

func TestWords(t *testing.T) {
	for k, w := range []string{"", "lru", "segment", "arc", "lfu", "second", "twoq", "tiny", "best"} {
		if k == 0 {
			continue
		}
		is(t, w)(first(contest.Word(api.PolicyKind(k))))
		is(t, fmt.Sprint(k, 0))(contest.Kind(w))
	}
	for _, k := range []api.PolicyKind{0, 9, -1, 1 << 40} {
		w, e := contest.Word(k)
		is(t, "true 2")(w == "", e)
	}
	for _, w := range []string{"", "LRU", "lru ", "none"} {
		is(t, "0 6")(contest.Kind(w))
	}
}

func first(s string, e api.Errno) string {
	if e != api.OK {
		return fmt.Sprint(e)
	}
	return s
}

func TestErrors(t *testing.T) {
	long := make([]uint32, 4097)
	for k := range api.PolicyKind(11) {
		for _, size := range []int{-1, 0, 1, 2, 1024, 1025} {
			ok := k >= 1 && k <= 8 && size >= 1 && size <= 1024 && (k != api.PolicyTiny || size >= 2)
			want := api.ErrArg
			if ok {
				want = api.OK
			}
			s, e := contest.Run(k, size, trace)
			l, f := contest.Turns(k, size, trace)
			table, g := contest.Table([]api.PolicyKind{lru, k}, []int{5, size, 7}, api.Load{Kind: loop, Keys: 2, Requests: 4})
			if e != want || f != want || g != want || !ok && (s != api.Score{} || l != nil || table != nil) {
				t.Error(k, size, e, f, g)
			}
			s, e = contest.Run(k, size, long)
			l, f = contest.Turns(k, size, long)
			if e != api.ErrLong || f != api.ErrLong || s != (api.Score{}) || l != nil {
				t.Error(k, size, e, f)
			}
		}
	}
	kinds := make([]api.PolicyKind, 20)
	sizes := make([]int, 20)
	good := api.Load{Kind: loop, Keys: 2, Requests: 4}
	is(t, "[] 2")(contest.Table(kinds, sizes, good))
	for i := range kinds {
		kinds[i], sizes[i] = lru, i+1
	}
	l, e := contest.Table(kinds, sizes, good)
	is(t, "400 0")(len(l), e)
	kinds = append(kinds, lru)
	is(t, "[] 7")(contest.Table(kinds, sizes, good))
	is(t, "[] 2")(contest.Table(kinds, sizes, api.Load{}))
	sizes[7] = 0
	is(t, "[] 2")(contest.Table(kinds, sizes, good))
	sizes[7] = 1025
	is(t, "[] 2")(contest.Table(kinds, sizes, good))
	sizes[7] = 8
	score, e := contest.Run(lru, 1, long[1:])
	is(t, "{1 1 {4096 4095}} 0")(score, e)
	kinds[20] = 9
	is(t, "[] 2")(contest.Table(kinds, sizes, good))
	is(t, "[] 0")(contest.Table(kinds, nil, good))
	is(t, "[] 0")(contest.Table(nil, []int{-1}, good))
	is(t, "[] 2")(contest.Table(nil, nil, api.Load{Kind: loop}))
	is(t, "[]")(contest.Rank(nil))
}

func TestRank(t *testing.T) {
	of := func(kind api.PolicyKind, size, requests, hits int) api.Score {
		return api.Score{Kind: kind, Size: size, Tally: api.Tally{Requests: requests, Hits: hits}}
	}
	l := []api.Score{of(3, 2, 1, 5), of(2, 2, 2, 5), of(2, 1, 3, 5), of(9, 9, 4, 6), of(2, 2, 5, 5), of(1, 1, 6, -1), of(2, 2, 0, 5)}
	is(t, "[{9 9 {4 6}} {2 1 {3 5}} {2 2 {2 5}} {2 2 {5 5}} {2 2 {0 5}} {3 2 {1 5}} {1 1 {6 -1}}]")(contest.Rank(l))
	is(t, "{3 2 {1 5}}")(l[0])
}

// policies returns the policies of other layers with the parameters of the table.
func policies(size int) map[api.PolicyKind]contest.Policy {
	a, _ := arc.New(size)
	b, _ := lfu.New(size, 10*size)
	c, _ := second.New(size)
	d, _ := twoq.New(size, max(1, size/4), size/2)
	m := map[api.PolicyKind]contest.Policy{api.PolicyArc: a, api.PolicyLFU: b, api.PolicySecond: c, api.PolicyTwoQ: d}
	if size > 1 {
		m[api.PolicyTiny], _ = tiny.New(size, max(1, size/100), 80, 0)
	}
	return m
}

// segmented does what the table says, with two lists from the oldest to the newest key.
func segmented(size int, trace []uint32) (turns []api.Turn) {
	var l [2][]uint32
	for _, key := range trace {
		var turn api.Turn
		i, j := slices.Index(l[0], key), slices.Index(l[1], key)
		switch {
		case i >= 0 || j >= 0:
			turn.Hit = true
			if i >= 0 {
				l[0] = slices.Delete(l[0], i, i+1)
			} else {
				l[1] = slices.Delete(l[1], j, j+1)
			}
			l[1] = append(l[1], key)
			for len(l[1]) > 80*size/100 {
				l[0] = append(l[0], l[1][0])
				l[1] = l[1][1:]
			}
		default:
			if len(l[0])+len(l[1]) == size {
				g := 0
				if len(l[0]) == 0 {
					g = 1
				}
				turn = api.Turn{Left: true, Out: l[g][0]}
				l[g] = l[g][1:]
			}
			l[0] = append(l[0], key)
		}
		turns = append(turns, turn)
	}
	return
}

func TestPolicies(t *testing.T) {
	for _, w := range []api.Load{{Kind: api.LoadSkew, Keys: 60, Requests: 900, Part: 3, Seed: 3}, {Kind: api.LoadMixed, Keys: 80, Requests: 700, Part: 40, Seed: 1}, {Kind: loop, Keys: 12, Requests: 300}, {Kind: api.LoadPhases, Keys: 90, Requests: 600, Part: 5}} {
		trace, _ := load.Make(w)
		keys := len(slices.Compact(slices.Sorted(slices.Values(trace))))
		plain, _ := reuse.Hits(trace)
		for _, size := range []int{1, 2, 3, 5, 9, 17, 40, 200} {
			most, _ := belady.Hits(trace, size)
			same := policies(size)
			for kind := lru; kind <= best; kind++ {
				if kind == api.PolicyTiny && size == 1 {
					continue
				}
				turns, e := contest.Turns(kind, size, trace)
				hits, f := belady.Check(trace, size, turns)
				score, g := contest.Run(kind, size, trace)
				if e != api.OK || f != api.OK || g != api.OK || hits > most || score != (api.Score{Kind: kind, Size: size, Tally: api.Tally{Requests: len(trace), Hits: hits}}) {
					t.Fatal(w, kind, size, e, f, g, hits, most, score)
				}
				if size >= keys && hits != len(trace)-keys || kind == lru && hits != plain[min(size, keys)] || kind == best && hits != most {
					t.Error(w, kind, size, hits)
				}
				if kind == seg && !slices.Equal(turns, segmented(size, trace)) {
					t.Error("segment", w, size)
				}
				p, ok := same[kind]
				if !ok {
					continue
				}
				for i, key := range trace {
					if turn, _ := p.Use(key); turn != turns[i] {
						t.Fatal(w, kind, size, i, turn, turns[i])
					}
				}
			}
		}
	}
}

func TestNew(t *testing.T) {
	for kind := lru; kind < best; kind++ {
		p, e := contest.New(kind, 3)
		if e != api.OK || p == nil {
			t.Fatal(kind, e)
		}
		is(t, "false 0")(p.Has(1), p.Len())
		there := map[uint32]bool{}
		for _, key := range []uint32{7, 1 << 31, 7, 3, 1<<32 - 1, 0, 7, 7, 3, 5, 0} {
			turn, e := p.Use(key)
			if e != api.OK || turn.Hit != there[key] || turn.Left && !there[turn.Out] {
				t.Error(kind, key, turn, e)
			}
			there[key] = true
			if turn.Left {
				delete(there, turn.Out)
			}
			for k := range there {
				if !p.Has(k) {
					t.Error(kind, k)
				}
			}
			if p.Len() != len(there) || turn.Left && p.Has(turn.Out) {
				t.Error(kind, p.Len())
			}
		}
	}
}
