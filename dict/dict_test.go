package dict_test

import (
	"fmt"
	"strconv"
	"testing"

	"cubbyhole/api"
	"cubbyhole/dict"
	"cubbyhole/entrylog"
	"cubbyhole/growth"
	"cubbyhole/hash"
)

func is(t *testing.T, want string) func(got ...any) {
	return func(got ...any) {
		t.Helper()
		if s := fmt.Sprint(got); s != "["+want+"]" {
			t.Errorf("got %s, want %s", s, want)
		}
	}
}

func of(key string, birth uint64) api.Entry {
	return api.Entry{Key: key, Value: []byte(key), Deadline: 5, Birth: birth}
}

func keys(d *dict.Dict) (l []string) {
	for slot, e := range d.All() {
		l = append(l, e.Key+strconv.Itoa(int(slot)))
	}
	return
}

func TestExamples(t *testing.T) {
	d := dict.New(hash.New(0, true))
	is(t, "0 1 0")(d.Sizes())
	is(t, "0 0")(d.Insert(of("a", 1)))
	is(t, "1 0")(d.Insert(of("b", 2)))
	is(t, "0 11")(d.Insert(of("a", 3)))
	is(t, "1 0")(d.Find("b"))
	is(t, "0 9")(d.Find("c"))
	is(t, "2 1 0")(d.Sizes())
	is(t, "{a [97] 5 1} 0")(d.Remove(0))
	is(t, "0 9")(d.Find("a"))
	is(t, "2 0")(d.Insert(of("a", 4)))
	is(t, "2 0")(d.Find("a"))
	is(t, "3 1 0")(d.Sizes())
	is(t, "[b1 a2]")(keys(d))
	for i := range 6 {
		_, _ = d.Insert(of("k"+strconv.Itoa(i), 9))
	}
	is(t, "9 2 0")(d.Sizes())
	is(t, "8")(d.Len())
}

func TestLogMethods(t *testing.T) {
	d := dict.New(hash.New(3, false))
	_, _ = d.Insert(of("a", 1))
	_, _ = d.Insert(of("b", 2))
	_, _ = d.Insert(of("c", 3))
	is(t, "0")(d.Set(1, []byte{7}, 8))
	is(t, "{b [7] 8 2} 0")(d.Get(1))
	is(t, "9")(d.Set(3, make([]byte, 65537), 8))
	is(t, "5")(d.Set(1, make([]byte, 65537), 8))
	is(t, "{b [7] 8 2} 0")(d.Remove(1))
	is(t, "{ [] 0 0} 9")(d.Remove(1))
	is(t, "{ [] 0 0} 9")(d.Get(1))
	is(t, "2 0")(d.Next(1))
	is(t, "0 9")(d.Next(3))
	is(t, "9")(d.Set(1, nil, 8))
	is(t, "2")(d.Len())
	all := d.All()
	l := d.Log()
	e := d.Copy()
	_, _ = d.Remove(0)
	is(t, "[a0 c2] [c2] 2 1")(keys(e), keys(d), e.Len(), d.Len())
	for slot, x := range all {
		is(t, "0 a")(slot, x.Key)
		break
	}
	is(t, "3 2")(l.Len(), l.Live())
	_, _ = l.Append(of("z", 9))
	is(t, "0 9")(d.Find("z"))
	is(t, "3 1 0")(d.Sizes())
	is(t, "3 false true")(append(seed(d), d.Hasher() == hash.New(3, false))...)
	_, _ = e.Insert(of("x", 1))
	is(t, "0 9")(d.Find("x"))
}

func seed(d *dict.Dict) []any {
	s, b := d.Hasher().Seed()
	return []any{s, b}
}

func TestErrors(t *testing.T) {
	for _, d := range []*dict.Dict{nil, {}} {
		is(t, "0 1")(d.Insert(api.Entry{}))
		is(t, "0 1")(d.Find("a"))
		is(t, "{ [] 0 0} 1")(d.Get(0))
		is(t, "1")(d.Set(0, nil, 0))
		is(t, "{ [] 0 0} 1")(d.Remove(0))
		is(t, "0 1")(d.Next(0))
		is(t, "0 true true true")(d.Len(), d.Log() == nil, d.Copy() == nil, d.Hasher() == hash.Hasher{})
		is(t, "0 0 0")(d.Sizes())
		is(t, "[]")(keys(d))
	}
	for _, l := range []*entrylog.Log{nil, {}} {
		if d, e := dict.Of(hash.New(0, false), l); d != nil || e != api.ErrNil {
			t.Error(e)
		}
	}
	d := dict.New(hash.Hasher{})
	long := make([]byte, 65537)
	is(t, "0 2")(d.Insert(api.Entry{Key: "k"}))
	is(t, "0 2")(d.Insert(api.Entry{Key: "k", Value: long}))
	is(t, "0 2")(d.Insert(api.Entry{Birth: 1}))
	is(t, "0 0")(d.Insert(of("a", 1)))
	is(t, "0 5")(d.Insert(api.Entry{Key: "a", Birth: 1, Value: long}))
	is(t, "0 2")(d.Insert(api.Entry{Key: "a"}))
	is(t, "0 9")(d.Find(""))
	is(t, "[a0]")(keys(d))
}

func TestFull(t *testing.T) {
	d := dict.New(hash.Hasher{})
	_, _ = d.Insert(of("a", 1))
	for range entrylog.MaxLog - 1 {
		slot, e := d.Insert(of("b", 1))
		if e != api.OK {
			t.Fatal(e)
		}
		if _, e := d.Remove(slot); e != api.OK {
			t.Fatal(e)
		}
	}
	is(t, "0 7")(d.Insert(of("b", 1)))
	is(t, "0 11")(d.Insert(of("a", 1)))
	is(t, "0 2")(d.Insert(api.Entry{}))
	is(t, "0 0")(d.Find("a"))
}

func TestOf(t *testing.T) {
	l := entrylog.New()
	for i := range 20 {
		_, _ = l.Append(of("k"+strconv.Itoa(i), uint64(i+1)))
	}
	for i := range uint32(5) {
		_, _ = l.Remove(i * 3)
	}
	d, e := dict.Of(hash.New(1, false), l)
	if e != api.OK {
		t.Fatal(e)
	}
	is(t, "[k11 k22 k44 k55 k77 k88 k1010 k1111 k1313 k1414 k1515 k1616 k1717 k1818 k1919]")(keys(d))
	is(t, "20 4 0")(d.Sizes())
	is(t, "7 0")(d.Find("k7"))
	_, _ = d.Remove(7)
	is(t, "k7 0")(l.Key(7))
	_, _ = l.Append(of("k8", 30))
	if d, e := dict.Of(hash.New(1, false), l); d != nil || e != api.ErrBusy {
		t.Error(e)
	}
}

// TestModel compares dictionaries with different hash functions with each other and with a map.
func TestModel(t *testing.T) {
	ds := []*dict.Dict{dict.New(hash.New(0, false)), dict.New(hash.New(9, false)), dict.New(hash.New(0, true))}
	there := map[string]uint32{}
	r := uint32(7)
	for step := range 6000 {
		r = r*1664525 + 1013904223
		key := strconv.Itoa(int(r >> 24))
		if step%2000 > 1500 {
			key = strconv.Itoa(int(r >> 30))
		}
		slot, ok := there[key]
		for i, d := range ds {
			got, e := d.Find(key)
			if ok != (e == api.OK) || ok && got != slot || !ok && e != api.ErrNone {
				t.Fatal(step, i, key, got, e)
			}
			if ok {
				if x, e := d.Remove(slot); e != api.OK || x.Key != key {
					t.Fatal(step, i, e)
				}
				delete(there, key)
			} else {
				n, e := d.Insert(of(key, 1))
				log, _, _ := d.Sizes()
				if e != api.OK || int(n) != log-1 {
					t.Fatal(step, i, n, e)
				}
				there[key] = n
			}
			_, groups, tombs := d.Sizes()
			bound, _ := growth.Bound(d.Len())
			if 8*groups > bound || tombs+d.Len() > 7*groups || d.Len() != len(there) {
				t.Fatal(step, i, groups, tombs, d.Len())
			}
		}
	}
	for i, d := range ds {
		if fmt.Sprint(keys(d)) != fmt.Sprint(keys(ds[0])) {
			t.Error(i)
		}
		e, err := dict.Of(hash.New(77, false), d.Log())
		if err != api.OK || fmt.Sprint(keys(e)) != fmt.Sprint(keys(d)) {
			t.Error(err)
		}
		_, _, tombs := e.Sizes()
		is(t, "0")(tombs)
	}
}
