package word_test

import (
	"fmt"
	"slices"
	"testing"

	"cubbyhole/api"
	"cubbyhole/word"
)

func load(t *testing.T, b ...byte) uint64 {
	t.Helper()
	w, e := word.Load(b)
	if e != api.OK {
		t.Fatal(e)
	}
	return w
}

func TestRepeatLoadBytes(t *testing.T) {
	for b := range 256 {
		for _, x := range word.Bytes(word.Repeat(byte(b))) {
			if x != byte(b) {
				t.Fatal(b, x)
			}
		}
	}
	if word.Repeat(1) != 72340172838076673 || word.Repeat(255) != 1<<64-1 {
		t.Error("repeat")
	}
	b := []byte{1, 2, 3, 4, 5, 6, 7, 8, 9}
	w := load(t, b...)
	if w != 0x0807060504030201 || word.Bytes(w) != [8]byte(b[:8]) {
		t.Errorf("%x", w)
	}
	for n := range 8 {
		if w, e := word.Load(b[:n]); w != 0 || e != api.ErrShort {
			t.Error(n, w, e)
		}
	}
	if w, e := word.Load(nil); w != 0 || e != api.ErrShort {
		t.Error(w, e)
	}
}

func TestLaneWith(t *testing.T) {
	w := load(t, 1, 2, 2, 255, 0, 128, 2, 127)
	for lane := range 8 {
		b, e := word.Lane(w, lane)
		if b != word.Bytes(w)[lane] || e != api.OK {
			t.Error(lane, b, e)
		}
		for _, c := range []byte{0, 9, 128, 255} {
			x, e := word.With(w, lane, c)
			want := word.Bytes(w)
			want[lane] = c
			if word.Bytes(x) != want || e != api.OK {
				t.Error(lane, c, x, e)
			}
		}
	}
	for _, lane := range []int{-1, 8, -1 << 63, 1<<63 - 1} {
		b, e := word.Lane(w, lane)
		x, f := word.With(w, lane, 1)
		if b != 0 || e != api.ErrRange || x != 0 || f != api.ErrRange {
			t.Error(lane, b, e, x, f)
		}
	}
}

// matches and highs look at each lane alone.
func matches(w uint64, b byte) (set uint8) {
	for i, x := range word.Bytes(w) {
		if x == b {
			set |= 1 << i
		}
	}
	return
}

func highs(w uint64) (set uint8) {
	for i, x := range word.Bytes(w) {
		if x >= 128 {
			set |= 1 << i
		}
	}
	return
}

func TestMatchHigh(t *testing.T) {
	w := load(t, 1, 2, 2, 255, 0, 128, 2, 127)
	for _, c := range []struct {
		b    byte
		want uint8
	}{{2, 70}, {0, 16}, {3, 0}, {255, 8}, {128, 32}, {127, 128}} {
		if got := word.Match(w, c.b); got != c.want {
			t.Error(c, got)
		}
	}
	if word.High(w) != 40 || word.High(0) != 0 || word.High(1<<64-1) != 255 {
		t.Error(word.High(w))
	}
	x := uint64(1)
	for range 3000 {
		x = x*6364136223846793005 + 1442695040888963407
		for _, w := range []uint64{x, x & 0x0101010101010101, x & 0x8181818181818181, x & 0x0300030003000300} {
			var union uint8
			for b := range 256 {
				m := word.Match(w, byte(b))
				if m != matches(w, byte(b)) {
					t.Fatalf("%x %d", w, b)
				}
				if b >= 128 {
					if union&m != 0 {
						t.Fatal("in common")
					}
					union |= m
				}
			}
			if h := word.High(w); h != highs(w) || h != union {
				t.Fatalf("%x", w)
			}
			if b := word.Bytes(w); load(t, b[:]...) != w {
				t.Fatal("load")
			}
		}
	}
}

func TestSets(t *testing.T) {
	for set := range 256 {
		s := uint8(set)
		var want []int
		for i := range 8 {
			if s>>i&1 == 1 {
				want = append(want, i)
			}
		}
		first := word.Lanes
		if len(want) > 0 {
			first = want[0]
		}
		all := word.All(s)
		if !slices.Equal(slices.Collect(all), want) || !slices.Equal(slices.Collect(all), want) || word.Count(s) != len(want) || word.First(s) != first {
			t.Error(set)
		}
	}
	all := word.All(70)
	for lane := range all {
		if lane != 1 {
			t.Error(lane)
		}
		break
	}
	if fmt.Sprint(slices.Collect(all)) != "[1 2 6]" {
		t.Error("after a stop")
	}
}
