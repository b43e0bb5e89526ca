package arc_test

import (
	"fmt"
	"slices"
	"testing"

	"cubbyhole/api"
	"cubbyhole/arc"
)

func is(t *testing.T, want string) func(got ...any) {
	return func(got ...any) {
		t.Helper()
		if s := fmt.Sprint(got); s != "["+want+"]" {
			t.Errorf("got %s, want %s", s, want)
		}
	}
}

const miss, hit = "{false false 0} 0", "{true false 0} 0"

func out(key int) string { return fmt.Sprint("{false true ", key, "} 0") }

func cacheOf(t *testing.T, size int) *arc.Arc {
	t.Helper()
	c, e := arc.New(size)
	if e != api.OK {
		t.Fatal(e)
	}
	return c
}

func TestExamples(t *testing.T) {
	c := cacheOf(t, 2)
	is(t, miss)(c.Use(1))
	is(t, miss)(c.Use(2))
	is(t, out(1))(c.Use(3))
	is(t, hit)(c.Use(2))
	is(t, out(3))(c.Use(4))
	is(t, "[4] [2] [3] [] 0")(c.Lists())
	is(t, out(2))(c.Use(3))
	is(t, "[4] [3] [] [2] 1")(c.Lists())
	is(t, out(4))(c.Use(2))
	is(t, "[] [2 3] [4] [] 0")(c.Lists())
	is(t, "false 0")(c.Drop(4))
	is(t, "true 0")(c.Drop(3))
	is(t, miss)(c.Use(5))
	is(t, "[5] [2] [4] [] 0")(c.Lists())
	is(t, "true true false false 2 2")(c.Has(5), c.Has(2), c.Has(4), c.Has(3), c.Len(), c.Size())
	is(t, "true 0")(c.Drop(5))
	is(t, "false 0")(c.Drop(5))
}

func TestErrors(t *testing.T) {
	for _, c := range []*arc.Arc{nil, {}} {
		is(t, "{false false 0} 1")(c.Use(1))
		is(t, "false 1")(c.Drop(1))
		is(t, "[] [] [] [] 0")(c.Lists())
		is(t, "false 0 0 true")(c.Has(1), c.Len(), c.Size(), c.Copy() == nil)
	}
	for _, n := range []int{0, -1, 1025, 1 << 40} {
		if c, e := arc.New(n); c != nil || e != api.ErrArg {
			t.Error(n, e)
		}
	}
	is(t, "1024 1")(cacheOf(t, 1024).Size(), cacheOf(t, 1).Size())
}

func TestCopy(t *testing.T) {
	c := cacheOf(t, 2)
	for _, k := range []uint32{1, 2, 1, 3, 2, 1 << 31} {
		_, _ = c.Use(k)
	}
	was := fmt.Sprint(c.Lists())
	x := c.Copy()
	is(t, was)(x.Lists())
	for k := range uint32(9) {
		_, _ = x.Use(k)
	}
	_, _ = x.Drop(8)
	a, _, _, _, _ := c.Lists()
	if len(a) > 0 {
		a[0] = 99
	}
	is(t, was)(c.Lists())
}

// model does what the definitions say, with lists from the newest to the oldest key.
type model struct {
	c, target int
	l         [4][]uint32
}

func (m *model) cut(i int, key uint32) {
	m.l[i] = slices.DeleteFunc(m.l[i], func(k uint32) bool { return k == key })
}
func (m *model) put(i int, key uint32) { m.l[i] = slices.Insert(m.l[i], 0, key) }

func (m *model) oldest(i int) uint32 {
	key := m.l[i][len(m.l[i])-1]
	m.l[i] = m.l[i][:len(m.l[i])-1]
	return key
}

func (m *model) room(found bool) api.Turn {
	if len(m.l[0])+len(m.l[1]) < m.c {
		return api.Turn{}
	}
	i := 1
	if len(m.l[0]) > 0 && (len(m.l[0]) > m.target || len(m.l[0]) == m.target && found) {
		i = 0
	}
	key := m.oldest(i)
	m.put(i+2, key)
	return api.Turn{Left: true, Out: key}
}

func (m *model) use(key uint32) (turn api.Turn) {
	at := slices.IndexFunc(m.l[:], func(l []uint32) bool { return slices.Contains(l, key) })
	switch at {
	case 0, 1:
		turn.Hit = true
	case 2:
		m.target = min(m.c, m.target+max(1, len(m.l[3])/len(m.l[2])))
		turn = m.room(false)
	case 3:
		m.target = max(0, m.target-max(1, len(m.l[2])/len(m.l[3])))
		turn = m.room(true)
	default:
		all := len(m.l[0]) + len(m.l[1]) + len(m.l[2]) + len(m.l[3])
		if len(m.l[0])+len(m.l[2]) == m.c {
			if len(m.l[0]) < m.c {
				m.oldest(2)
				turn = m.room(false)
			} else {
				turn = api.Turn{Left: true, Out: m.oldest(0)}
			}
		} else if all >= m.c {
			if all == 2*m.c {
				m.oldest(3)
			}
			turn = m.room(false)
		}
		m.put(0, key)
		return
	}
	m.cut(at, key)
	m.put(1, key)
	return
}

func TestModel(t *testing.T) {
	r := uint32(1)
	for size := 1; size < 8; size++ {
		c, m := cacheOf(t, size), &model{c: size}
		for step := range 4000 {
			r = r*1664525 + 1013904223
			key := r >> 16 % uint32(size*3+1)
			if step%200 > 100 {
				key = uint32(step) % uint32(size*2)
			}
			if r>>8%11 == 0 {
				want := slices.Contains(m.l[0], key) || slices.Contains(m.l[1], key)
				m.cut(0, key)
				m.cut(1, key)
				is(t, fmt.Sprint(want, 0))(c.Drop(key))
			} else {
				is(t, fmt.Sprint(m.use(key), 0))(c.Use(key))
			}
			is(t, fmt.Sprint(m.l[0], m.l[1], m.l[2], m.l[3], m.target))(c.Lists())
			n := len(m.l[0]) + len(m.l[1])
			if t.Failed() || c.Len() != n || n > size || n+len(m.l[2])+len(m.l[3]) > 2*size || len(m.l[0])+len(m.l[2]) > size || c.Has(key) != (slices.Contains(m.l[0], key) || slices.Contains(m.l[1], key)) {
				t.Fatal(size, step)
			}
		}
	}
}
