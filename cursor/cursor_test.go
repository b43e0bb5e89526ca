package cursor_test

import (
	"fmt"
	"testing"

	"cubbyhole/api"
	"cubbyhole/cache"
	"cubbyhole/cursor"
	"cubbyhole/event"
)

func is(t *testing.T, want string) func(got ...any) {
	return func(got ...any) {
		t.Helper()
		if s := fmt.Sprint(got); s != "["+want+"]" {
			t.Errorf("got %s, want %s", s, want)
		}
	}
}

// cursors returns cursors on a cache with some keys.
func cursors(t *testing.T, keys ...string) *cursor.Cursors {
	t.Helper()
	c, _ := cache.New(api.Config{Count: 1000, Bytes: 1 << 20, Protected: 50})
	for _, k := range keys {
		_ = c.Set(5, k, nil)
	}
	s, e := cursor.New(c)
	if e != api.OK {
		t.Fatal(e)
	}
	if s.Cache() != c {
		t.Fatal("not the cache itself")
	}
	return s
}

// next returns the key of the next entry and the error.
func next(s *cursor.Cursors, t api.Time, n int) string {
	x, e := s.Next(t, n)
	return fmt.Sprint(x.Key, int(e))
}

func TestExamples(t *testing.T) {
	s := cursors(t, "a", "b", "c")
	c := s.Cache()
	_, _ = c.Touch(5, "b", 4)
	is(t, "0 0")(s.Open())
	is(t, "1 0")(s.Open())
	is(t, "a0 c0 14")(next(s, 5, 0), next(s, 9, 0), next(s, 9, 0))
	is(t, "3 0")(s.At(0))
	_ = c.Set(9, "d", nil)
	is(t, "d0 a0 0 d0 9")(next(s, 9, 0), next(s, 9, 1), s.Seek(1, 3), next(s, 9, 1), s.Seek(2, 0))
	is(t, "0 [1]")(s.Close(0), s.Opened())
	is(t, "0 0")(s.Open())
	is(t, "0 0")(s.At(0))
	is(t, "9 9 9")(s.Close(7), next(s, 20, 7), c.Now())
}

func TestErrors(t *testing.T) {
	for _, c := range []*cache.Cache{nil, {}} {
		if s, e := cursor.New(c); s != nil || e != api.ErrNil {
			t.Error(e)
		}
	}
	for _, s := range []*cursor.Cursors{nil, {}} {
		is(t, "0 1")(s.Open())
		is(t, "{ [] 0 0} 1")(s.Next(1, 0))
		is(t, "0 1")(s.At(0))
		is(t, "1 1 true [] true")(s.Seek(0, 1), s.Close(0), s.Cache() == nil, s.Opened(), s.Copy() == nil)
	}
	s := cursors(t, "a")
	_, _ = s.Open()
	for _, n := range []int{-1, 1, 63, 64, 1 << 40, -1 << 63} {
		is(t, "{ [] 0 0} 9")(s.Next(99, n))
		is(t, "0 9")(s.At(n))
		is(t, "9 9 5")(s.Seek(n, 1), s.Close(n), s.Cache().Now())
	}
	is(t, "a0 14 14 30 0 9")(next(s, 7, 0), next(s, 20, 0), next(s, 30, 0), s.Cache().Now(), s.Close(0), s.Close(0))
}

func TestNumbers(t *testing.T) {
	s := cursors(t)
	for i := range cursor.MaxCursors {
		is(t, fmt.Sprint(i, " 0"))(s.Open())
		_ = s.Seek(i, uint64(i+1))
	}
	is(t, "0 7")(s.Open())
	is(t, "64 0 0 0")(len(s.Opened()), s.Close(63), s.Close(5), s.Close(17))
	is(t, "5 0")(s.Open())
	is(t, "0 0")(s.At(5))
	is(t, "17 0")(s.Open())
	is(t, "63 0")(s.Open())
	is(t, "0 7")(s.Open())
	is(t, "5 0")(s.At(4))
	x := s.Copy()
	is(t, "0 0 0")(x.Close(3), x.Seek(4, 99), x.Cache().Set(8, "z", nil))
	is(t, "4 0")(s.At(3))
	is(t, "5 0")(s.At(4))
	is(t, "99 0")(x.At(4))
	is(t, "0 1 64 63")(s.Cache().Len(), x.Cache().Len(), len(s.Opened()), len(x.Opened()))
	is(t, "18446744073709551615 0")(func() (any, any) { _ = s.Seek(0, 1<<64-1); n, e := s.At(0); return n, e }())
	is(t, "14")(next(s, 8, 0))
}

func TestFull(t *testing.T) {
	s := cursors(t, "a", "b")
	_, _ = s.Open()
	for range event.MaxEvents - 2 {
		_ = s.Cache().Set(6, "a", nil)
	}
	is(t, "a0 0 7 7 6")(next(s, 6, 0), s.Cache().Set(6, "a", nil), next(s, 9, 0), next(s, 9, 0), s.Cache().Now())
	is(t, "1 0")(s.At(0))
	is(t, "{ [] 0 0} 9")(s.Next(1, 1))
}

// TestGoingOver changes the cache while cursors go over it.
func TestGoingOver(t *testing.T) {
	s := cursors(t, "a", "b", "c", "d", "e", "f")
	c := s.Cache()
	_, _ = s.Open()
	_ = c.SetTTL(5, "x", nil, 3)
	is(t, "a0 b0")(next(s, 6, 0), next(s, 6, 0))
	_, _ = c.Delete(6, "c")
	_, _ = c.Delete(6, "a")
	_ = c.Compact(6)
	_ = c.Set(6, "d", []byte("new"))
	_, _, _ = c.Get(6, "e")
	_ = c.Set(6, "a", nil)
	is(t, "d0 e0 f0")(next(s, 6, 0), next(s, 6, 0), next(s, 7, 0))
	is(t, "a0 14 14 8")(next(s, 8, 0), next(s, 8, 0), next(s, 3, 0), c.Now())
	_ = c.Set(9, "y", nil)
	is(t, "y0 14")(next(s, 9, 0), next(s, 9, 0))
	_, _ = c.Clear(9)
	is(t, "0 14")(s.Seek(0, 0), next(s, 9, 0))
	x, e := cursors(t, "q").Next(5, 0)
	is(t, "{ [] 0 0} 9")(x, e)
}
