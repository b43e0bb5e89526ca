package lab_test

import (
	"bytes"
	"fmt"
	"strconv"
	"testing"

	"cubbyhole/api"
	"cubbyhole/audit"
	"cubbyhole/contest"
	"cubbyhole/journal"
	"cubbyhole/lab"
	"cubbyhole/script"
	"cubbyhole/snap"
)

func is(t *testing.T, want string) func(got ...any) {
	return func(got ...any) {
		t.Helper()
		if s := fmt.Sprint(got); s != "["+want+"]" {
			t.Errorf("got %s, want %s", s, want)
		}
	}
}

var (
	c = api.Config{Count: 1, Bytes: 100}
	d = api.Config{Count: 1, Bytes: 100, Seed: 7}
	e = api.Config{Count: 1, Bytes: 48}
)

// none is a configuration that is not valid.
func none(want api.Errno) api.Config {
	return map[api.Errno]api.Config{240: {}, 241: {Count: 1}, 242: {Count: 1, Bytes: 1, Protected: -1}}[want]
}

func write(t *testing.T, l ...api.Op) []byte {
	t.Helper()
	b, e := script.Write(l)
	if e != api.OK {
		t.Fatal(e)
	}
	return b
}

func labOf(t *testing.T) *lab.Lab {
	t.Helper()
	var l lab.Lab
	get, set := api.Op{Kind: api.OpGet, Key: "a"}, api.Op{Kind: api.OpSet, Key: "a"}
	if e := l.Put("g", write(t, get, set, get)); e != api.OK {
		t.Fatal(e)
	}
	return &l
}

func TestExamples(t *testing.T) {
	l := labOf(t)
	is(t, "[g] 2 9")(l.Names(), l.Put("1", nil), l.Remove("h"))
	is(t, "[] 9")(l.Get("h"))
	r, x := l.Run("g", c)
	is(t, "3 true 0")(len(r), r[2].Hit, x)
	is(t, "{-1 0} 0")(l.Check("g", c))
	is(t, "-1 0")(l.Compact("g", c))
	is(t, "-1 0")(l.Differ("g", c, d))
	is(t, "1 0")(l.Differ("g", c, e))
	is(t, "0 10")(l.Shrink("g", "h", c, d))
	is(t, "4 0")(l.Shrink("g", "h", c, e))
	is(t, "[g h]")(l.Names())
	is(t, "[0 0 0] 0")(l.Keys("g"))
	is(t, "[0] 0")(l.Keys("h"))
	is(t, "[1 1 97 0] 0")(l.Get("h"))
	is(t, "1 0")(l.Shrink("h", "h", c, e)) // without the only one
}

func TestPut(t *testing.T) {
	var l lab.Lab
	long := make([]byte, 4097)
	is(t, "2 2 5 0 2")(l.Put("", long), l.Put("a b", nil), l.Put("a", long), l.Put("a", long[1:]), l.Put("1", nil))
	b := []byte{6, 6}
	is(t, "0")(l.Put("a", b))
	b[0] = 9
	is(t, "[6 6] 0")(l.Get("a"))
	got, _ := l.Get("a")
	got[0] = 9
	is(t, "[6 6] 0")(l.Get("a"))
	for i := range 49 {
		is(t, "0")(l.Put("n"+strconv.Itoa(i), b))
	}
	is(t, "7 5 0 50 [a n0 n1 n10]")(l.Put("z", nil), l.Put("z", long), l.Put("n7", nil), len(l.Names()), l.Names()[:4])
	_ = l.Put("n8", write(t, api.Op{Kind: api.OpSet, Key: "a"}))
	is(t, "0 7")(l.Shrink("n8", "z", c, e))
	is(t, "0 10")(l.Shrink("n8", "z", c, c))
	is(t, "1 0")(l.Shrink("n8", "n7", c, e))
	x := l.Copy()
	is(t, "0 9 0")(l.Remove("a"), l.Remove("a"), l.Put("z", nil))
	_ = x.Put("n1", nil)
	is(t, "[9 6] 0")(l.Get("n1"))
	is(t, "[6 6] 0")(x.Get("a"))
	is(t, "[] 0")(x.Get("n1"))
}

func TestErrors(t *testing.T) {
	var l *lab.Lab
	is(t, "1 1 [] true")(l.Put("", nil), l.Remove(""), l.Names(), l.Copy() == nil)
	is(t, "[] 1")(l.Get("g"))
	run, x := l.Run("g", c)
	is(t, "[] 1")(run, x)
	is(t, "{0 0} 1")(l.Check("g", c))
	is(t, "0 1")(l.Compact("g", c))
	is(t, "0 1")(l.Differ("g", c, d))
	is(t, "0 1")(l.Shrink("", "", c, d))
	is(t, "[] 1")(l.Save("g", c))
	is(t, "[] 1")(l.Journal("g"))
	is(t, "[] 1")(l.Keys("g"))
	is(t, "[] 1")(l.Scores("g", nil, nil))
	for i, l := range []*lab.Lab{{}, labOf(t)} {
		for want, bad := range map[string]api.Config{"240": none(240), "241": none(241), "242": none(242)} {
			if i == 0 {
				want = "9" // no script
			}
			run, x := l.Run("g", bad)
			is(t, "[] "+want)(run, x)
			is(t, "{0 0} "+want)(l.Check("g", bad))
			is(t, "0 "+want)(l.Compact("g", bad))
			is(t, "0 "+want)(l.Differ("g", bad, api.Config{}))
			is(t, "0 "+want)(l.Differ("g", c, bad))
			is(t, "0 "+want)(l.Shrink("g", "h", bad, api.Config{}))
			is(t, "0 "+want)(l.Shrink("g", "h", c, bad))
			is(t, "[] "+want)(l.Save("g", bad))
		}
	}
	l = &lab.Lab{}
	is(t, "[] 9")(l.Journal("g"))
	is(t, "[] 9")(l.Keys("g"))
	is(t, "[] 9")(l.Scores("g", []api.PolicyKind{0}, []int{0}))
	is(t, "0 2")(l.Shrink("g", "1", c, d))
	is(t, "0 2")(l.Shrink("1", "g", c, d))
	is(t, "[] 9")(l.Get("1"))
	l = labOf(t)
	is(t, "[] 2")(l.Scores("g", []api.PolicyKind{1, 9}, []int{1}))
	is(t, "[] 2")(l.Scores("g", []api.PolicyKind{1}, []int{1, 0}))
	is(t, "[] 0")(l.Scores("g", []api.PolicyKind{9}, nil))
	_ = l.Put("many", bytes.Repeat([]byte{6}, 2049))
	is(t, "0 7")(l.Compact("many", c))
	is(t, "0 240")(l.Compact("many", none(240)))
	_ = l.Put("many", bytes.Repeat([]byte{6}, 2048))
	is(t, "-1 0")(l.Compact("many", c))
	_ = l.Put("most", bytes.Repeat([]byte{6}, 4096))
	b, x := l.Journal("most")
	is(t, fmt.Sprint(4096*7, 0))(len(b), x)
}

func TestKeysScores(t *testing.T) {
	l := labOf(t)
	op := func(k api.OpKind, key string) api.Op { return api.Op{Kind: k, Key: key} }
	_ = l.Put("k", write(t, op(api.OpGet, "x"), op(api.OpSet, "y"), api.Op{Kind: api.OpClear}, op(api.OpSetTTL, ""), op(api.OpTouch, "x"), api.Op{Kind: api.OpOpen}, op(api.OpPeek, "z"), api.Op{Kind: api.OpNext}, op(api.OpDelete, "y"), api.Op{Kind: api.OpResize, Count: 1, Bytes: 1}, op(api.OpGet, "")))
	is(t, "[0 1 2 0 3 1 2] 0")(l.Keys("k"))
	scores, x := l.Scores("k", []api.PolicyKind{api.PolicyLRU, api.PolicyBest}, []int{2, 1, 4})
	var want []api.Score
	for _, k := range []api.PolicyKind{1, 8} {
		for _, n := range []int{2, 1, 4} {
			s, _ := contest.Run(k, n, []uint32{0, 1, 2, 0, 3, 1, 2})
			want = append(want, s)
		}
	}
	is(t, fmt.Sprint(want, 0))(scores, x)
	_ = l.Put("none", nil)
	is(t, "[] 0")(l.Keys("none"))
}

func TestScripts(t *testing.T) {
	r := uint32(8)
	for round := range 8 {
		b := make([]byte, 300)
		for i := range b {
			r = r*1664525 + 1013904223
			b[i] = byte(r >> 24)
			if i%5 > 1 {
				b[i] &= 19
			}
		}
		var l lab.Lab
		_ = l.Put("s", b)
		ops, _ := script.Parse(b)
		c := api.Config{Count: 4, Bytes: 300, Protected: 50}
		f := api.Config{Count: 4, Bytes: 300, Protected: 50, Seed: 99, Same: true}
		g := api.Config{Count: 3, Bytes: 300, Protected: 50}
		run, x := l.Run("s", c)
		want, _ := journal.Run(c, ops)
		is(t, "-1 0")(script.Differ(run, want), x)
		at, why, _ := audit.Check(c, run)
		is(t, fmt.Sprint(api.LabCheck{At: at, Why: why}, 0))(l.Check("s", c))
		is(t, "{-1 0} 0")(l.Check("s", c))
		is(t, "-1 0")(l.Compact("s", c))
		is(t, "-1 0")(l.Differ("s", c, f))
		other, _ := l.Run("s", g)
		first := script.Differ(run, other)
		is(t, fmt.Sprint(first, 0))(l.Differ("s", c, g))
		bytes1, x := l.Save("s", c)
		state, y := snap.Read(bytes1)
		is(t, fmt.Sprint(0, 0, run[len(run)-1].Len, run[len(run)-1].At))(int(x), int(y), len(state.Entries), state.Now)
		log, _ := l.Journal("s")
		read, used := journal.Read(log)
		is(t, fmt.Sprint(len(ops), len(log)))(len(read), used)
		if first < 0 {
			continue
		}
		attempts, x := l.Shrink("s", "small", c, g)
		small, _ := l.Get("small")
		left, _ := script.Parse(small)
		if x != api.OK || attempts < len(ops) || len(left) == 0 || len(left) > 12 {
			t.Error(round, x, attempts, len(left))
		}
		differ := func(l []api.Op) bool {
			p, _ := journal.Run(c, l)
			q, _ := journal.Run(g, l)
			return script.Differ(p, q) >= 0
		}
		if !differ(left) {
			t.Error(round, "does not differ")
		}
		for i := range left {
			if differ(append(append([]api.Op{}, left[:i]...), left[i+1:]...)) {
				t.Error(round, "could be smaller")
			}
		}
		// the same attempts, one after the other
		count, now := 0, ops
		for again := true; again; {
			again = false
			for i := 0; i < len(now); {
				try := append(append([]api.Op{}, now[:i]...), now[i+1:]...)
				count++
				if differ(try) {
					now, again = try, true
				} else {
					i++
				}
			}
		}
		if count != attempts || len(now) != len(left) {
			t.Error(round, count, attempts)
		}
	}
}
