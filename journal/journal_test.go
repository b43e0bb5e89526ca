package journal_test

import (
	"bytes"
	"fmt"
	"slices"
	"strings"
	"testing"

	"cubbyhole/api"
	"cubbyhole/journal"
	"cubbyhole/script"
)

func is(t *testing.T, want string) func(got ...any) {
	return func(got ...any) {
		t.Helper()
		if s := fmt.Sprint(got); s != "["+want+"]" {
			t.Errorf("got %s, want %s", s, want)
		}
	}
}

var (
	get = api.Op{Kind: api.OpGet, Key: "a"}
	adv = api.Op{Kind: api.OpAdvance}
	set = api.Op{Kind: api.OpSetTTL, Ticks: 20, Key: "key", Value: []byte("value"), TTL: 300}
)

func equal(a, b []api.Op) bool {
	for i := range min(len(a), len(b)) {
		if !script.Equal(a[i], b[i]) {
			return false
		}
	}
	return len(a) == len(b)
}

func of(t *testing.T, l ...api.Op) *journal.Journal {
	t.Helper()
	var j journal.Journal
	for _, o := range l {
		if e := j.Append(o); e != api.OK {
			t.Fatal(e)
		}
	}
	return &j
}

func fold(sum uint32, b []byte) uint32 {
	for _, x := range b {
		sum = 33*sum ^ uint32(x)
	}
	return sum
}

func TestExamples(t *testing.T) {
	var j journal.Journal
	is(t, "5381 0 2 0 2")(j.Sum(), j.Append(get), j.Append(api.Op{}), j.Append(adv), j.Len())
	is(t, "true")(equal(j.Ops(), []api.Op{get, adv}))
	b := j.Bytes()
	l, n := journal.Read(b)
	is(t, "true true 16")(equal(l, []api.Op{get, adv}), n == len(b), n)
	l, n = journal.Read(b[:len(b)-1])
	is(t, "true 9")(equal(l, []api.Op{get}), n)
	l, n = journal.Read(nil)
	is(t, "[] 0")(l, n)
	r0, e := j.Record(0)
	r1, f := j.Record(1)
	is(t, "true 0 0")(bytes.Equal(append(r0, r1...), b), e, f)
	is(t, "[] 3")(j.Record(2))
	is(t, "[] 3")(j.Record(-1))
}

func TestRecord(t *testing.T) {
	j := of(t, get, set, adv)
	b := j.Bytes()
	var want []byte
	sum := uint32(5381)
	for _, o := range []api.Op{get, set, adv} {
		s, _ := script.Write([]api.Op{o})
		r := append([]byte{byte(len(s) >> 8), byte(len(s))}, s...)
		sum = fold(sum, r)
		want = append(append(want, r...), byte(sum>>24), byte(sum>>16), byte(sum>>8), byte(sum))
	}
	is(t, fmt.Sprint(want, sum))(b, j.Sum())
	long := of(t, api.Op{Kind: api.OpSet, Key: strings.Repeat("k", 31), Value: bytes.Repeat([]byte{7}, 255)})
	is(t, "[1 33]")(long.Bytes()[:2])
}

func TestErrors(t *testing.T) {
	var j *journal.Journal
	is(t, "1 0 [] [] 0 true")(j.Append(api.Op{}), j.Len(), j.Bytes(), j.Ops(), j.Sum(), j.Copy() == nil)
	is(t, "[] 1")(j.Record(-1))
	for _, o := range []api.Op{{}, {Kind: 15}, {Kind: api.OpGet, Key: strings.Repeat("k", 32)}, {Kind: api.OpAdvance, Ticks: 271}, {Kind: api.OpClear, Count: 1}} {
		is(t, "2")((&journal.Journal{}).Append(o))
	}
	for want, c := range map[api.Errno]api.Config{240: {}, 241: {Count: 1}, 242: {Count: 1, Bytes: 1, Protected: -1}} {
		l, e := journal.Run(c, make([]api.Op, 5000))
		is(t, fmt.Sprint("[] ", int(want)))(l, e)
	}
	c := api.Config{Count: 3, Bytes: 1000}
	l, e := journal.Run(c, make([]api.Op, 4097))
	is(t, "[] 7")(l, e)
	l, e = journal.Run(c, []api.Op{get, {}})
	is(t, "[] 2")(l, e)
	l, e = journal.Run(c, []api.Op{{Kind: api.OpSet, Key: "a", Value: []byte("v")}, get, {Kind: api.OpOpen}, {Kind: api.OpNext, Ticks: 1 << 50}})
	is(t, "4 [118] a 1125899906842624 0")(len(l), l[1].Value, l[3].Entry.Key, l[3].At, e)
	l, e = journal.Run(c, nil)
	is(t, "[] 0")(l, e)
}

func TestFull(t *testing.T) {
	var j journal.Journal
	for range 4096 {
		if e := j.Append(adv); e != api.OK {
			t.Fatal(e)
		}
	}
	is(t, "7 2 4096")(j.Append(adv), j.Append(api.Op{}), j.Len())
	b := j.Bytes()
	s := []byte{0, 1, 9}
	sum := fold(j.Sum(), s)
	b = append(append(b, s...), byte(sum>>24), byte(sum>>16), byte(sum>>8), byte(sum))
	l, n := journal.Read(b)
	is(t, fmt.Sprint(4096, len(b)-7))(len(l), n)
	var k journal.Journal
	big := api.Op{Kind: api.OpSet, Key: strings.Repeat("k", 31), Value: make([]byte, 255)}
	count := 0
	for k.Append(big) == api.OK {
		count++
	}
	is(t, "3554 7 0")(count, k.Append(big), k.Append(adv)) // 295 bytes each, 146 are left
	for k.Append(adv) == api.OK {
		count++
	}
	used := len(k.Bytes())
	is(t, "true true 7")(used <= 1<<20, used > 1<<20-7, k.Append(adv))
	x, n := journal.Recover(k.Bytes())
	is(t, "true true")(x.Len() == k.Len(), n == used)
}

func TestCut(t *testing.T) {
	ops := []api.Op{get, set, adv, {Kind: api.OpResize, Count: 9, Bytes: 300}, {Kind: api.OpSeek, Cursor: 3, Birth: 7}, set, get}
	j := of(t, ops...)
	b := j.Bytes()
	for cut := range len(b) + 1 {
		whole, end := 0, 0
		for n := range j.Len() {
			r, _ := j.Record(n)
			if end+len(r) > cut {
				break
			}
			end += len(r)
			whole++
		}
		l, n := journal.Read(b[:cut])
		if !equal(l, ops[:whole]) || n != end {
			t.Fatal(cut, len(l), n)
		}
		x, n := journal.Recover(b[:cut])
		if x.Len() != whole || n != end || !bytes.Equal(x.Bytes(), b[:end]) {
			t.Fatal(cut, x.Len(), n)
		}
		for _, o := range ops[whole:] {
			_ = x.Append(o)
		}
		if !bytes.Equal(x.Bytes(), b) || x.Sum() != j.Sum() {
			t.Fatal(cut)
		}
	}
	for i := range b {
		record, begin, end := 0, 0, 0
		for ; ; record++ {
			r, _ := j.Record(record)
			begin, end = end, end+len(r)
			if end > i {
				break
			}
		}
		if i < begin+2 {
			continue
		}
		for _, d := range []byte{1, 32, 128, 255} {
			spoilt := bytes.Clone(b)
			spoilt[i] ^= d
			if l, n := journal.Read(spoilt); !equal(l, ops[:record]) || n != begin {
				t.Fatal(i, d, len(l), n)
			}
		}
	}
	// bytes that are read as the same operation are not its record
	s := []byte{0, 3, 0, 33, 97}
	sum := fold(5381, s)
	l, n := journal.Read(append(s, byte(sum>>24), byte(sum>>16), byte(sum>>8), byte(sum)))
	is(t, "[] 0")(l, n)
}

func TestCopy(t *testing.T) {
	j := of(t, get, set)
	x := j.Copy()
	_ = x.Append(adv)
	_ = j.Append(get)
	b := x.Bytes()
	b[0] = 9
	r, _ := x.Record(0)
	r[0] = 9
	o := x.Ops()
	o[1].Value[0] = 9
	is(t, "true true")(equal(x.Ops(), []api.Op{get, set, adv}), equal(j.Ops(), []api.Op{get, set, get}))
	in := j.Bytes()
	y, _ := journal.Recover(in)
	in[0] = 9
	is(t, "true")(equal(y.Ops(), j.Ops()))
	v := []byte("v")
	z := of(t, api.Op{Kind: api.OpSet, Key: "k", Value: v})
	v[0] = 'w'
	is(t, "[118]")(z.Ops()[0].Value)
}

// TestCopies appends different records to journals of all lengths and their copies.
func TestCopies(t *testing.T) {
	var j journal.Journal
	for n := range 40 {
		x := j.Copy()
		y := j.Copy()
		_, _, _ = x.Append(get), y.Append(adv), j.Append(set)
		for i, z := range []*journal.Journal{x, y, &j} {
			l := z.Ops()
			if len(l) != n+1 || !script.Equal(l[n], []api.Op{get, adv, set}[i]) {
				t.Fatal(n, i)
			}
		}
	}
	l, e := journal.Run(api.Config{Count: 1, Bytes: 1}, slices.Repeat([]api.Op{adv}, 4096))
	is(t, "4096 0")(len(l), e)
}

// TestAllBytes has as many bytes as a journal may have.
func TestAllBytes(t *testing.T) {
	var j journal.Journal
	big := api.Op{Kind: api.OpSet, Key: strings.Repeat("k", 31), Value: make([]byte, 255)}
	for range 3554 {
		_ = j.Append(big)
	}
	big.Value = make([]byte, 107)
	is(t, "7")(j.Append(big))
	big.Value = make([]byte, 106)
	is(t, "0 1048576 7")(j.Append(big), len(j.Bytes()), j.Append(adv))
	l, n := journal.Read(j.Bytes())
	is(t, "3555 1048576")(len(l), n)
}
