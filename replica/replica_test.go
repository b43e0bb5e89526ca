package replica_test

import (
	"bytes"
	"fmt"
	"strings"
	"testing"

	"cubbyhole/api"
	"cubbyhole/journal"
	"cubbyhole/replica"
	"cubbyhole/script"
)

func is(t *testing.T, want string) func(got ...any) {
	return func(got ...any) {
		t.Helper()
		if s := fmt.Sprint(got); s != "["+want+"]" {
			t.Errorf("got %s, want %s", s, want)
		}
	}
}

var (
	config = api.Config{Count: 2, Bytes: 1000}
	get    = api.Op{Kind: api.OpGet, Key: "a"}
	adv    = api.Op{Kind: api.OpAdvance}
)

func leader(t *testing.T, c api.Config, l ...api.Op) *replica.Leader {
	t.Helper()
	x, e := replica.NewLeader(c)
	if e != api.OK {
		t.Fatal(e)
	}
	for _, o := range l {
		if _, e := x.Do(o); e != api.OK {
			t.Fatal(e)
		}
	}
	return x
}

func follower(t *testing.T, c api.Config) *replica.Follower {
	t.Helper()
	f, e := replica.NewFollower(c)
	if e != api.OK {
		t.Fatal(e)
	}
	return f
}

func record(l *replica.Leader, n int) []byte {
	b, _ := l.Record(n)
	return b
}

// received returns how many results there were and the error.
func received(l []api.Result, e api.Errno) string { return fmt.Sprint(len(l), int(e)) }

func TestExamples(t *testing.T) {
	l := leader(t, config)
	r, e := l.Do(get)
	is(t, "false 0")(r.Hit, e)
	r, e = l.Do(adv)
	is(t, "0 0")(r.Err, e)
	_, _ = l.Do(get)
	is(t, "3")(l.Len())
	is(t, "[] 3")(l.Record(3))
	is(t, "[] 3")(l.Record(-1))
	f := follower(t, config)
	is(t, "0 0 [2] [{0 2}]")(received(f.Receive(2, record(l, 2))), f.Waiting(), f.Gaps())
	is(t, "1 0 0 0 [{1 2}]")(received(f.Receive(0, record(l, 0))), received(f.Receive(0, nil)), f.Gaps())
	is(t, "0 10 2 0 3")(received(f.Receive(1, record(l, 0))), received(f.Receive(1, record(l, 1))), f.Len())
	is(t, "0 3 0 0")(received(f.Receive(259, nil)), received(f.Receive(258, nil)))
	is(t, "[258] [{3 258}]")(f.Waiting(), f.Gaps())
}

func TestErrors(t *testing.T) {
	for want, c := range map[api.Errno]api.Config{240: {}, 241: {Count: 1}, 242: {Count: 1, Bytes: 1, Protected: -1}} {
		l, e := replica.NewLeader(c)
		f, g := replica.NewFollower(c)
		if l != nil || f != nil || e != want || g != want {
			t.Error(e, g)
		}
	}
	for _, l := range []*replica.Leader{nil, {}} {
		r, e := l.Do(api.Op{})
		is(t, "true 1 0 true true")(script.Same(r, api.Result{}), e, l.Len(), l.Cache() == nil, l.Copy() == nil)
		is(t, "[] 1")(l.Record(-1))
	}
	for _, f := range []*replica.Follower{nil, {}} {
		is(t, "0 1 0 [] [] true true")(received(f.Receive(-1, nil)), f.Len(), f.Waiting(), f.Gaps(), f.Cache() == nil, f.Copy() == nil)
	}
	l := leader(t, config)
	for _, o := range []api.Op{{}, {Kind: api.OpGet, Key: strings.Repeat("k", 32)}, {Kind: api.OpAdvance, Ticks: 300}} {
		r, e := l.Do(o)
		is(t, "true 2 0")(script.Same(r, api.Result{}), e, l.Len())
	}
	f := follower(t, config)
	is(t, "0 2 0 3 0 3")(received(f.Receive(-1, nil)), received(f.Receive(256, nil)), received(f.Receive(1<<62, nil)))
	is(t, "0 0 0 10 [255] 0")(received(f.Receive(255, nil)), received(f.Receive(0, []byte{1, 2, 3})), f.Waiting(), f.Len())
	is(t, "0 10")(received(f.Receive(0, nil)))
	for range journal.MaxRecords {
		if _, e := l.Do(adv); e != api.OK {
			t.Fatal(e)
		}
	}
	_, e := l.Do(adv)
	is(t, "7 4096")(e, l.Len())
	f = follower(t, config)
	for n := range journal.MaxRecords {
		if s := received(f.Receive(n, record(l, n))); s != "1 0" {
			t.Fatal(n, s)
		}
	}
	var j journal.Journal
	_ = j.Append(adv)
	// the record that would come next
	b := []byte{0, 1, 9}
	last := record(l, 4095)
	sum := uint32(last[3])<<24 | uint32(last[4])<<16 | uint32(last[5])<<8 | uint32(last[6])
	for _, x := range b {
		sum = 33*sum ^ uint32(x)
	}
	b = append(b, byte(sum>>24), byte(sum>>16), byte(sum>>8), byte(sum))
	is(t, "0 10 4096 []")(received(f.Receive(4096, b)), f.Len(), f.Waiting())
}

func TestBytesFull(t *testing.T) {
	l := leader(t, api.Config{Count: 2, Bytes: 1000})
	big := api.Op{Kind: api.OpSet, Key: strings.Repeat("k", 31), Value: make([]byte, 255)}
	f := follower(t, config)
	n := 0
	for ; ; n++ {
		if _, e := l.Do(big); e != api.OK {
			is(t, "7")(e)
			break
		}
		if s := received(f.Receive(n, record(l, n))); s != "1 0" {
			t.Fatal(n, s)
		}
	}
	s, _ := script.Write([]api.Op{big})
	b := append([]byte{byte(len(s) >> 8), byte(len(s))}, s...)
	last := record(l, n-1)
	sum := uint32(0)
	for _, x := range last[len(last)-4:] {
		sum = sum<<8 | uint32(x)
	}
	for _, x := range b {
		sum = 33*sum ^ uint32(x)
	}
	b = append(b, byte(sum>>24), byte(sum>>16), byte(sum>>8), byte(sum))
	is(t, fmt.Sprint("0 10 ", n))(received(f.Receive(n, b)), f.Len())
	_, e := l.Do(adv)
	is(t, "0")(e)
	is(t, "1 0")(received(f.Receive(n, record(l, n))))
}

func TestReceive(t *testing.T) {
	l := leader(t, config, api.Op{Kind: api.OpSet, Key: "a", Value: []byte("1")}, api.Op{Kind: api.OpOpen}, api.Op{Kind: api.OpSetTTL, Key: "b", TTL: 3}, api.Op{Kind: api.OpNext}, api.Op{Kind: api.OpNext, Ticks: 5}, get)
	f := follower(t, config)
	b := record(l, 3)
	is(t, "0 0")(received(f.Receive(3, b)))
	b[2] = 99                                                                           // not retained
	is(t, "0 0 0 0")(received(f.Receive(3, nil)), received(f.Receive(5, record(l, 5)))) // one waits already
	is(t, "[3 5] [{0 3} {4 5}]")(f.Waiting(), f.Gaps())
	spoilt := bytes.Clone(record(l, 1))
	spoilt[3]++
	is(t, "0 0 0 0")(received(f.Receive(1, spoilt)), received(f.Receive(2, record(l, 2))))
	x := f.Copy()
	done, e := f.Receive(0, record(l, 0))
	is(t, "1 1 10 1 [2 3 5] [{1 2} {4 5}]")(len(done), done[0].Op.Kind, e, f.Len(), f.Waiting(), f.Gaps())
	is(t, "0 10 0 10")(received(f.Receive(1, append(record(l, 1), 0))), received(f.Receive(1, record(l, 1)[:5])))
	done, e = f.Receive(1, record(l, 1))
	is(t, "3 a 0 4 [5] [{4 5}]")(len(done), done[2].Entry.Key, e, f.Len(), f.Waiting(), f.Gaps())
	done, e = f.Receive(4, record(l, 4))
	is(t, "2 expired? true 14 true 0")(len(done), "expired?", len(done[0].Events) == 1, done[0].Err, done[1].Hit, e)
	is(t, fmt.Sprint(l.Cache().State()))(f.Cache().State())
	is(t, "[1 2 3 5] 0 0")(x.Waiting(), x.Len(), x.Cache().Len())
	y := l.Copy()
	_, _ = y.Do(adv)
	_ = y.Cache().Set(99, "q", nil)
	_, _ = l.Do(get)
	is(t, "7 7 true 5 5")(l.Len(), y.Len(), bytes.Equal(record(l, 5), record(y, 5)), l.Cache().Now(), y.Cache().Now())
	is(t, "false")(bytes.Equal(record(l, 6), record(y, 6)))
}

// TestAnyOrder sends the records in other orders, and several times.
func TestAnyOrder(t *testing.T) {
	r := uint32(5)
	next := func(n uint32) uint32 { r = r*1664525 + 1013904223; return r >> 16 % n }
	for round := range 10 {
		b := make([]byte, 500)
		for i := range b {
			b[i] = byte(next(256))
			if i%5 > 1 {
				b[i] &= 19
			}
		}
		ops, _ := script.Parse(b)
		c := api.Config{Count: 4, Bytes: 400, Protected: 50}
		l := leader(t, c)
		states := []string{fmt.Sprint(l.Cache().State())}
		var results []api.Result
		for _, o := range ops {
			x, _ := l.Do(o)
			results = append(results, x)
			states = append(states, fmt.Sprint(l.Cache().State()))
		}
		if round%3 == 2 {
			c.Seed, c.Same = 9, true
		}
		f := follower(t, c)
		var done []api.Result
		for f.Len() < len(ops) {
			n := f.Len() + int(next(12))
			if n >= len(ops) {
				continue
			}
			x, e := f.Receive(n, record(l, n))
			done = append(done, x...)
			if e != api.OK || f.Len() != len(done) || round%3 < 2 && fmt.Sprint(f.Cache().State()) != states[f.Len()] {
				t.Fatal(round, n, e)
			}
		}
		if script.Differ(done, results) != -1 || len(f.Waiting()) > 0 || len(f.Gaps()) > 0 {
			t.Fatal(round)
		}
	}
}

// TestAllBytes has as many bytes as a journal may have.
func TestAllBytes(t *testing.T) {
	l, f := leader(t, config), follower(t, config)
	big := api.Op{Kind: api.OpSet, Key: strings.Repeat("k", 31), Value: make([]byte, 255)}
	for n := range 3555 {
		if n == 3554 {
			big.Value = make([]byte, 106)
		}
		_, e := l.Do(big)
		if s := received(f.Receive(n, record(l, n))); s != "1 0" || e != api.OK {
			t.Fatal(n, s, e)
		}
	}
	_, e := l.Do(adv)
	is(t, "7")(e)
}
