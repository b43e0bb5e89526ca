package links_test

import (
	"fmt"
	"slices"
	"testing"

	"cubbyhole/api"
	"cubbyhole/links"
)

func is(t *testing.T, want string) func(got ...any) {
	return func(got ...any) {
		t.Helper()
		if s := fmt.Sprint(got); s != "["+want+"]" {
			t.Errorf("got %s, want %s", s, want)
		}
	}
}

func field(t *testing.T, nodes, heads int) *links.Links {
	t.Helper()
	l, e := links.New(nodes, heads)
	if e != api.OK {
		t.Fatal(e)
	}
	return l
}

func all(l *links.Links, head int) []uint32 { return slices.Collect(l.All(head)) }

func TestExamples(t *testing.T) {
	l := field(t, 4, 2)
	is(t, "0 0 0 11 0")(l.Back(0, 2), l.Back(0, 0), l.Front(0, 3), l.Back(1, 3), l.Before(1, 0))
	is(t, "[3 2 1 0]")(all(l, 0))
	is(t, "1 0")(l.Next(2))
	is(t, "0 9")(l.Prev(3))
	is(t, "0 0")(l.Of(1))
	is(t, "0 9")(l.First(1))
	is(t, "0")(l.Remove(2))
	is(t, "1 0")(l.Next(3))
	is(t, "3")(l.Len(0))
	is(t, "0 0")(l.Back(1, 2), l.Join(0, 1))
	is(t, "[2 3 1 0] 0 2")(all(l, 1), l.Len(0), l.Join(1, 1))
	is(t, "1 0")(l.Of(0))
	is(t, "0")(l.Renumber([]uint32{5, 1, 0, 2}, 6))
	is(t, "[0 2 1 5] 6 0 2")(all(l, 1), l.Nodes(), l.Back(0, 3), l.Back(0, 6))
	if x, e := links.New(0, 1); x != nil || e != api.ErrArg {
		t.Error(e)
	}
	if x, e := links.New(1, 4097); x != nil || e != api.ErrArg {
		t.Error(e)
	}
	is(t, "9")(field(t, 4, 1).Remove(3))
}

func TestNew(t *testing.T) {
	for _, c := range [][2]int{{-1, 1}, {1, 0}, {1, -1}, {links.MaxNodes + 1, 1}, {1 << 62, 1 << 62}, {1, 1 << 62}} {
		if x, e := links.New(c[0], c[1]); x != nil || e != api.ErrArg {
			t.Error(c, e)
		}
	}
	l := field(t, links.MaxNodes, links.MaxHeads)
	is(t, "4194304 4096 0 0")(l.Nodes(), l.Heads(), l.Back(4095, links.MaxNodes-1), l.Front(0, 0))
	is(t, "4194303 0")(l.First(4095))
	for _, l := range []*links.Links{nil, {}} {
		is(t, "1 1 1 1 1 1")(l.Front(-1, 9), l.Back(0, 0), l.Before(0, 0), l.Remove(0), l.Join(0, 0), l.Renumber(nil, 0))
		is(t, "0 1")(l.First(0))
		is(t, "0 1")(l.Last(0))
		is(t, "0 1")(l.Next(0))
		is(t, "0 1")(l.Prev(0))
		is(t, "0 1")(l.Of(0))
		is(t, "0 0 0 true []")(l.Len(0), l.Nodes(), l.Heads(), l.Copy() == nil, all(l, 0))
	}
}

func TestErrors(t *testing.T) {
	l := field(t, 3, 2)
	for _, head := range []int{-1, 2, 1 << 40, -1 << 63} {
		is(t, "2 2 2 2")(l.Front(head, 0), l.Back(head, 0), l.Join(0, head), l.Join(head, 0))
		is(t, "0 2")(l.First(head))
		is(t, "0 2")(l.Last(head))
		is(t, "0 []")(l.Len(head), all(l, head))
	}
	for _, n := range []uint32{3, 4, 5, 1<<32 - 1} { // 3 and 4 are behind the nodes
		is(t, "2 2 2 2 2")(l.Front(0, n), l.Back(0, n), l.Before(n, 0), l.Before(0, n), l.Remove(n))
		is(t, "0 2")(l.Next(n))
		is(t, "0 2")(l.Prev(n))
		is(t, "0 2")(l.Of(n))
	}
	is(t, "9 9")(l.Before(0, 1), l.Before(0, 0))
	is(t, "0 0 11 11 11 11")(l.Back(0, 0), l.Back(1, 1), l.Front(1, 0), l.Back(0, 0), l.Before(0, 1), l.Before(0, 0))
	is(t, "11")(l.Before(0, 2)) // the node is there already, and the other one is nowhere
	is(t, "0 9")(l.Next(0))
	is(t, "0 9")(l.Prev(0))
	is(t, "0 9")(l.Next(2))
	is(t, "0 9")(l.Prev(2))
	is(t, "0 9")(l.Of(2))
	is(t, "9")(l.Remove(2))
	is(t, "2 2 2 2 2 2")(l.Renumber(nil, 3), l.Renumber([]uint32{0, 1}, 3), l.Renumber([]uint32{0, 1, 2, 3}, 9), l.Renumber([]uint32{0, 1, 2}, 0), l.Renumber([]uint32{0, 1, 2}, links.MaxNodes+1), l.Renumber([]uint32{0, 1, 2}, 1))
	is(t, "2 2")(l.Renumber([]uint32{1, 1, 2}, 3), l.Renumber([]uint32{0, 9, 2}, 3))
	is(t, "[0] [1] 3")(all(l, 0), all(l, 1), l.Nodes())
	is(t, "0")(l.Renumber([]uint32{1, 0, 99}, 2))
	is(t, "[1] [0] 2 2")(all(l, 0), all(l, 1), l.Nodes(), l.Heads())
	is(t, "0 0 0 0")(l.Remove(0), l.Remove(1), l.Renumber([]uint32{7, 7}, 1), l.Len(0))
}

func TestJoin(t *testing.T) {
	l := field(t, 6, 3)
	is(t, "0 0")(l.Join(0, 1), l.Len(1))
	for i := range uint32(3) {
		_ = l.Back(0, i)
	}
	is(t, "0")(l.Join(1, 0))
	is(t, "[0 1 2]")(all(l, 0))
	is(t, "0")(l.Join(0, 1))
	is(t, "[] [0 1 2] 0 3")(all(l, 0), all(l, 1), l.Len(0), l.Len(1))
	_ = l.Back(0, 5)
	is(t, "0")(l.Join(0, 1))
	is(t, "[0 1 2 5]")(all(l, 1))
	is(t, "5 0")(l.Last(1))
	is(t, "0 0")(l.Remove(0), l.Front(0, 0))
	is(t, "1 0")(l.First(1))
	is(t, "2 0")(l.Prev(5))
}

func TestIndependence(t *testing.T) {
	l := field(t, 4, 1)
	for i := range uint32(3) {
		_ = l.Front(0, i)
	}
	it := l.All(0)
	x := l.Copy()
	_ = l.Remove(1)
	for n := range it {
		is(t, "2")(n)
		break
	}
	is(t, "[2 1 0] [2 1 0] [2 0]")(slices.Collect(it), all(x, 0), all(l, 0))
	_ = x.Back(0, 3)
	is(t, "2 4 9")(l.Len(0), x.Len(0), l.Remove(3))
	to := []uint32{1, 0, 3, 2}
	_ = x.Renumber(to, 4)
	to[0] = 7
	is(t, "[3 0 1 2]")(all(x, 0))
	_ = x.Renumber([]uint32{1, 0, 3, 2}, 4)
	is(t, "[2 1 0 3]")(all(x, 0))
}

// TestModel compares a field with lists of numbers.
func TestModel(t *testing.T) {
	const nodes, heads = 12, 3
	l := field(t, nodes, heads)
	m := make([][]uint32, heads)
	find := func(n uint32) (int, int) {
		for h, x := range m {
			if i := slices.Index(x, n); i >= 0 {
				return h, i
			}
		}
		return -1, -1
	}
	r := uint32(3)
	next := func(n uint32) uint32 { r = r*1664525 + 1013904223; return r >> 16 % n }
	for step := range 5000 {
		head, n, other := int(next(heads)), next(nodes), next(nodes)
		h, i := find(n)
		k, j := find(other)
		var e, want api.Errno
		switch op := next(6); {
		case op < 2 && h >= 0, op == 2 && h >= 0:
			want = api.ErrBusy
			e = []func() api.Errno{func() api.Errno { return l.Front(head, n) }, func() api.Errno { return l.Back(head, n) }, func() api.Errno { return l.Before(n, other) }}[op]()
		case op == 0:
			e = l.Front(head, n)
			m[head] = slices.Insert(m[head], 0, n)
		case op == 1:
			e = l.Back(head, n)
			m[head] = append(m[head], n)
		case op == 2 && k < 0:
			e, want = l.Before(n, other), api.ErrNone
		case op == 2:
			e = l.Before(n, other)
			m[k] = slices.Insert(m[k], j, n)
		case op == 3 && h < 0:
			e, want = l.Remove(n), api.ErrNone
		case op == 3 || op == 4 && h >= 0:
			e = l.Remove(n)
			m[h] = slices.Delete(m[h], i, i+1)
		case op == 5 && step%10 == 0 && head != int(n%heads):
			e = l.Join(head, int(n%heads))
			m[n%heads] = append(m[n%heads], m[head]...)
			m[head] = nil
		}
		if e != want {
			t.Fatal(step, e, want)
		}
		for h := range heads {
			if !slices.Equal(all(l, h), m[h]) || l.Len(h) != len(m[h]) {
				t.Fatal(step, h, all(l, h), m[h])
			}
		}
		for n := range uint32(nodes) {
			h, i := find(n)
			got, e := l.Of(n)
			if (h >= 0) != (e == api.OK) || h >= 0 && got != h {
				t.Fatal(step, n)
			}
			if h >= 0 && i > 0 {
				if p, e := l.Prev(n); e != api.OK || p != m[h][i-1] {
					t.Fatal(step, n, p, e)
				}
				if p, e := l.Next(m[h][i-1]); e != api.OK || p != n {
					t.Fatal(step, n, p, e)
				}
			}
		}
	}
}
