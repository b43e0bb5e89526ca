package sketch_test

import (
	"fmt"
	"strconv"
	"testing"

	"cubbyhole/api"
	"cubbyhole/hash"
	"cubbyhole/sketch"
)

func is(t *testing.T, want string) func(got ...any) {
	return func(got ...any) {
		t.Helper()
		if s := fmt.Sprint(got); s != "["+want+"]" {
			t.Errorf("got %s, want %s", s, want)
		}
	}
}

func sketchOf(t *testing.T, width int, seed uint64, sample int) *sketch.Sketch {
	t.Helper()
	s, e := sketch.New(width, seed, sample)
	if e != api.OK {
		t.Fatal(e)
	}
	return s
}

func TestExamples(t *testing.T) {
	s := sketchOf(t, 16, 0, 0)
	is(t, "[15 3 0 1] 0")(s.Places("a"))
	is(t, "[0 0 0 0] 0")(s.Places(""))
	for _, k := range []string{"a", "a", "a", "", ""} {
		is(t, "false 0")(s.Add(k))
	}
	is(t, "3 2 5")(s.Count("a"), s.Count(""), s.Additions())
	r, e := s.Row(2)
	is(t, "16 5 0 0")(len(r), r[0], r[1], e)
	is(t, "0 1 1 2")(s.Halve(), s.Count("a"), s.Count(""), s.Additions())
	is(t, "[] 2")(s.Row(4))
	x := sketchOf(t, 16, 0, 4)
	for i := range 4 {
		is(t, fmt.Sprint(i == 3, 0))(x.Add("a"))
	}
	is(t, "2 2")(x.Count("a"), x.Additions())
	is(t, "false 0")(x.Add("a"))
	is(t, "true 0")(x.Add("a"))
	is(t, "2 2")(x.Count("a"), x.Additions())
}

func TestErrors(t *testing.T) {
	for _, s := range []*sketch.Sketch{nil, {}} {
		is(t, "false 1")(s.Add("a"))
		is(t, "[0 0 0 0] 1")(s.Places("a"))
		is(t, "[] 1")(s.Row(9))
		is(t, "1 0 0 true")(s.Halve(), s.Count("a"), s.Additions(), s.Copy() == nil)
	}
	for _, c := range [][2]int{{8, 0}, {24, 0}, {16, -1}, {0, 0}, {-16, 0}, {1 << 17, 0}, {16, 1<<24 + 1}, {1 << 40, 0}, {-1 << 63, 0}} {
		if s, e := sketch.New(c[0], 0, c[1]); s != nil || e != api.ErrArg {
			t.Error(c, e)
		}
	}
	s := sketchOf(t, 1<<16, 1<<63, 1<<24)
	is(t, "[] 2")(s.Row(-1))
	is(t, "[] 2")(s.Row(1 << 40))
	sum := hash.New(1<<63, false).Sum("xyz")
	is(t, fmt.Sprint([4]uint64{sum & 65535, sum >> 16 & 65535, sum >> 32 & 65535, sum >> 48}, 0))(s.Places("xyz"))
}

func TestOne(t *testing.T) {
	s := sketchOf(t, 16, 0, 1)
	is(t, "true 0")(s.Add("a"))
	is(t, "0 0")(s.Count("a"), s.Additions())
}

// TestModel counts in four maps by places.
func TestModel(t *testing.T) {
	r := uint32(4)
	for _, sample := range []int{0, 50, 333} {
		s := sketchOf(t, 32, 99, sample)
		var m [4][32]int
		n := 0
		halve := func() {
			for i := range m {
				for j := range m[i] {
					m[i][j] /= 2
				}
			}
			n /= 2
		}
		for step := range 2000 {
			r = r*1664525 + 1013904223
			key := strconv.Itoa(int(r >> 16 % 60))
			p, _ := s.Places(key)
			want := 15
			for i := range m {
				want = min(want, m[i][p[i]])
			}
			if got := s.Count(key); got != want {
				t.Fatal(step, got, want)
			}
			switch {
			case step%400 == 399:
				is(t, "0")(s.Halve())
				halve()
			case step%400 == 200:
				x := s.Copy()
				_, _ = s.Add(key)
				_ = s.Halve()
				s = x
			default:
				for i := range m {
					m[i][p[i]] = min(15, m[i][p[i]]+1)
				}
				n++
				halved := n == sample
				if halved {
					halve()
				}
				is(t, fmt.Sprint(halved, 0))(s.Add(key))
			}
			for i := range m {
				is(t, fmt.Sprint(m[i], 0))(s.Row(i))
			}
			is(t, fmt.Sprint(n))(s.Additions())
			if t.Failed() {
				t.Fatal(step)
			}
		}
	}
}
