package report_test

import (
	"fmt"
	"strings"
	"testing"

	"cubbyhole/api"
	"cubbyhole/report"
)

func is(t *testing.T, want string) func(got ...any) {
	return func(got ...any) {
		t.Helper()
		if s := fmt.Sprint(got); s != "["+want+"]" {
			t.Errorf("got %s, want %s", s, want)
		}
	}
}

// text returns a text and an error, with strokes for line feeds.
func text(s string, e api.Errno) string {
	return strings.ReplaceAll(s, "\n", "|") + fmt.Sprint(int(e))
}

func TestOfRun(t *testing.T) {
	v := func(k ...api.EventKind) (l []api.Event) {
		for _, x := range k {
			l = append(l, api.Event{Kind: x})
		}
		return
	}
	op := func(k api.OpKind) api.Op { return api.Op{Kind: k} }
	l := []api.Result{
		{Op: op(api.OpGet), Hit: true, Len: 3, Cost: 9}, {Op: op(api.OpPeek), Len: 4, Cost: 1}, {Op: op(api.OpTouch), Hit: true, Len: -1}, {Op: op(api.OpDelete), Hit: true}, {Op: op(api.OpGet), Hit: true, Err: 2}, {Op: op(api.OpSet), Events: v(3, 2, 2)},
		{Op: op(api.OpSetTTL), Events: v(1, 0, 6, -1, 77)}, {Op: op(api.OpSet), Err: 12, Events: v(1)}, {Op: op(api.OpClear), Events: v(5, 5, 5, 4)}, {Op: op(api.OpNext), Err: 14}, {Op: op(0), Hit: true},
	}
	is(t, "{11 3 3 2 2 [2 2 1 1 3] 4 9} 0")(report.OfRun(l))
	is(t, "{0 0 0 0 0 [0 0 0 0 0] 0 0} 0")(report.OfRun(nil))
	is(t, "{1 0 0 0 0 [0 0 0 0 0] 0 0} 0")(report.OfRun([]api.Result{{Len: -5, Cost: -7}}))
	is(t, "{0 0 0 0 0 [0 0 0 0 0] 0 0} 7")(report.OfRun(make([]api.Result, 4097)))
	is(t, "{4096 0 0 0 0 [0 0 0 0 0] 0 0} 0")(report.OfRun(make([]api.Result, 4096)))
}

func TestRun(t *testing.T) {
	zero := "run:|- ops 0|- errors 0|- gets 0|- hits 0|- sets 0|- expired 0|- evicted 0|- replaced 0|- deleted 0|- cleared 0|- len 0|- cost 0|"
	is(t, zero+"0")(text(report.Run(api.RunCount{})))
	full := api.RunCount{Ops: 1, Errors: 2, Gets: 3, Hits: 4, Sets: 5, Events: [5]int{6, 7, 8, 9, 10}, Len: 11, Cost: 1<<63 - 1}
	s, e := report.Run(full)
	is(t, "run:|- ops 1|- errors 2|- gets 3|- hits 4|- sets 5|- expired 6|- evicted 7|- replaced 8|- deleted 9|- cleared 10|- len 11|- cost 9223372036854775807|0")(text(s, e))
	c, e := report.ReadRun(s)
	is(t, "true 0")(c == full, e)
	for i := range 12 {
		x := full
		*[]*int{&x.Ops, &x.Errors, &x.Gets, &x.Hits, &x.Sets, &x.Events[0], &x.Events[1], &x.Events[2], &x.Events[3], &x.Events[4], &x.Len, &x.Cost}[i] = -1
		is(t, "2")(text(report.Run(x)))
	}
	lines := strings.SplitAfter(strings.ReplaceAll(zero, "|", "\n"), "\n")
	bad := []string{"", "run:\n", "run:", strings.Join(lines[1:], ""), strings.Join(lines, "") + "\n", strings.Join(lines, "") + "x", "x" + strings.Join(lines, ""), strings.TrimSuffix(strings.Join(lines, ""), "\n"), strings.Join(lines[:12], ""), strings.ReplaceAll(strings.Join(lines, ""), "\n", "\r\n")}
	for _, r := range [][2]string{{"ops 0", "ops 00"}, {"ops 0", "ops -0"}, {"ops 0", "ops +0"}, {"ops 0", "ops  0"}, {"ops 0", "ops"}, {"ops 0", "ops x"}, {"- ops", "-ops"}, {"ops", "Ops"}, {"hits 0", "hits -1"}, {"cost 0", "cost 9223372036854775808"}, {"- len 0\n", ""}, {"run:", "run"}, {"- gets 0\n- hits 0\n", "- hits 0\n- gets 0\n"}} {
		bad = append(bad, strings.Replace(strings.Join(lines, ""), r[0], r[1], 1))
	}
	for i, s := range bad {
		c, e := report.ReadRun(s)
		if c != (api.RunCount{}) || e != api.ErrFormat {
			t.Error(i, s, c, e)
		}
	}
}

func TestRatioPercent(t *testing.T) {
	const most = 1 << 30
	for _, c := range []struct {
		a, b           int
		ratio, percent string
	}{
		{2, 6, "1/30", "33.33%0"}, {0, 0, "0/10", "0.00%0"}, {7, 7, "1/10", "100.00%0"}, {3, 2, "2", "2"}, {-1, 2, "2", "2"}, {-3, -2, "2", "2"}, {1, 6, "1/60", "16.67%0"}, {1, 8, "1/80", "12.50%0"}, {5, 5, "1/10", "100.00%0"}, {0, 9, "0/10", "0.00%0"},
		{12, 18, "2/30", "66.67%0"}, {1, 200, "1/2000", "0.50%0"}, {1, 20000, "1/200000", "0.01%0"}, {1, 20001, "1/200010", "0.00%0"}, {3, 20000, "3/200000", "0.02%0"}, {most, most, "1/10", "100.00%0"}, {most - 1, most, "1073741823/10737418240", "100.00%0"}, {1, most + 1, "2", "2"}, {0, most + 1, "2", "2"},
		{1, 1000, "1/10000", "0.10%0"}, {99994, 100000, "49997/500000", "99.99%0"}, {99995, 100000, "19999/200000", "100.00%0"}, {1, 1 << 62, "2", "2"},
	} {
		is(t, c.ratio+" "+c.percent)(text(report.Ratio(c.a, c.b)) + " " + text(report.Percent(c.a, c.b)))
	}
}

func score(kind api.PolicyKind, size, hits, requests int) api.Score {
	return api.Score{Kind: kind, Size: size, Tally: api.Tally{Requests: requests, Hits: hits}}
}

func TestScores(t *testing.T) {
	l := []api.Score{score(1, 2, 1, 6), score(8, 1024, 0, 0), score(6, 1, 1<<30, 1<<30)}
	s, e := report.Scores(l)
	is(t, "lru at 2: 1 of 6, 1/6 16.67%|best at 1024: 0 of 0, 0/1 0.00%|twoq at 1: 1073741824 of 1073741824, 1/1 100.00%|0")(text(s, e))
	got, n, e := report.ReadScores(s)
	is(t, fmt.Sprint(l, 0, 0))(got, n, e)
	got, n, e = report.ReadScores("")
	is(t, "[] 0 0")(got, n, e)
	is(t, "0")(text(report.Scores(nil)))
	for _, x := range []api.Score{{}, score(0, 1, 0, 0), score(9, 1, 0, 0), score(-1, 1, 0, 0), score(1, 0, 0, 0), score(1, 1025, 0, 0), score(1, 1, 2, 1), score(1, 1, -1, 1), score(1, 1, 1, 1<<30+1), score(1, -1, 0, 0)} {
		is(t, "2")(text(report.Scores([]api.Score{l[0], x})))
	}
	good := "lru at 2: 1 of 6, 1/6 16.67%\n"
	for i, bad := range []string{
		"x", "\n", "lru at 2: 1 of 6, 1/6 16.67%", "lru at 2: 1 of 6, 1/6 16.66%\n", "lru at 2: 1 of 6, 2/12 16.67%\n", "lru at 02: 1 of 6, 1/6 16.67%\n", "LRU at 2: 1 of 6, 1/6 16.67%\n", "lru at 2: 1 of 6 1/6 16.67%\n", "lru at 2 : 1 of 6, 1/6 16.67%\n", "lru at 2: 1 of 6, 1/6 16.67% \n", " lru at 2: 1 of 6, 1/6 16.67%\n",
		"lru at 0: 1 of 6, 1/6 16.67%\n", "lru at 1025: 1 of 6, 1/6 16.67%\n", "lru at 2: 7 of 6, 7/6 116.67%\n", "lru at 2: 1 of 6, 1/6 16.67%\r\n", "lru at 2: -1 of 6, 1/6 16.67%\n", "lru at 2: +1 of 6, 1/6 16.67%\n", "lru at 2: 1 of 1073741825, 1/1073741825 0.00%\n", "lru  at 2: 1 of 6, 1/6 16.67%\n", "none at 2: 1 of 6, 1/6 16.67%\n",
	} {
		got, n, e := report.ReadScores(good + bad)
		if got != nil || n != 2 || e != api.ErrFormat {
			t.Error(i, got, n, e)
		}
		got, n, e = report.ReadScores(bad + "\n" + good)
		if i != 2 && (got != nil || n < 1 || n > 2) || (i != 2) != (e == api.ErrFormat) {
			t.Error(i, got, n, e)
		}
	}
	many := make([]api.Score, 1001)
	for i := range many {
		many[i] = score(3, 5, i, 1001)
	}
	is(t, "7")(text(report.Scores(many)))
	is(t, "7")(text(report.Scores(make([]api.Score, 1001))))
	s, _ = report.Scores(many[:1000])
	got, n, e = report.ReadScores(s)
	is(t, "1000 0 0 {3 5 {1001 999}}")(len(got), n, e, got[999])
	got, n, e = report.ReadScores(s + good)
	is(t, "[] 1001 6")(got, n, e)
	got, n, e = report.ReadScores(s + "x")
	is(t, "[] 1001 6")(got, n, e)
	got, n, e = report.ReadScores(s[:len(s)-2] + "\n" + good)
	is(t, "[] 1000 6")(got, n, e)
}

func TestCheck(t *testing.T) {
	is(t, "fine|0")(text(report.Check(api.LabCheck{At: -1})))
	for i, w := range []string{"", "time", "event", "expiry", "victim", "budget", "read", "cursor", "error", ""} {
		want := fmt.Sprint("result 3: ", w, "|0")
		if w == "" {
			want = "2"
		}
		is(t, want)(text(report.Check(api.LabCheck{At: 3, Why: api.Complaint(i)})))
	}
	is(t, "result 0: time|0")(text(report.Check(api.LabCheck{Why: 1})))
	for _, c := range []api.LabCheck{{At: -1, Why: 1}, {At: -2}, {At: -2, Why: 1}, {}, {At: 1, Why: -1}, {At: 1, Why: 1 << 40}, {At: -1 << 63}} {
		is(t, "2")(text(report.Check(c)))
	}
	is(t, "result 9223372036854775807: error|0")(text(report.Check(api.LabCheck{At: 1<<63 - 1, Why: 8})))
}
