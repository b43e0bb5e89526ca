package tick_test

import (
	"testing"

	"cubbyhole/api"
	"cubbyhole/tick"
)

const never = api.Never

func TestAddEffectiveFirst(t *testing.T) {
	for _, c := range []struct {
		t    api.Time
		d    uint64
		want api.Time
	}{
		{5, 7, 12}, {0, 0, 0}, {never, 0, never}, {never, 1, never}, {never - 2, 1, never - 1}, {never - 2, 2, never}, {never - 2, 3, never}, {never - 1, 1<<64 - 1, never},
		{0, 1<<64 - 1, never}, {0, 1<<64 - 2, never - 1}, {1, 1<<64 - 1, never}, {1 << 63, 1 << 63, never},
	} {
		if got := tick.Add(c.t, c.d); got != c.want {
			t.Error(c, got)
		}
	}
	if tick.Effective(9, 4) != 9 || tick.Effective(4, 9) != 9 || tick.Effective(never, 0) != never || tick.Effective(3, 3) != 3 {
		t.Error("effective")
	}
	if tick.First(3, never, 2) != 2 || tick.First() != never || tick.First(never) != never || tick.First(0, 1) != 0 || tick.First(1, 0) != 0 {
		t.Error("first")
	}
}

func TestDueLeft(t *testing.T) {
	for _, c := range []struct {
		deadline, now api.Time
		due           bool
		left          uint64
	}{
		{5, 5, true, 0}, {6, 5, false, 1}, {4, 5, true, 0}, {never, never, false, 1<<64 - 1}, {never, 5, false, 1<<64 - 1}, {5, never, true, 0}, {never - 1, never, true, 0},
		{never - 1, 0, false, 1<<64 - 2}, {9, 5, false, 4}, {5, 9, true, 0}, {0, 0, true, 0}, {never - 1, never - 1, true, 0},
	} {
		if due, left := tick.Due(c.deadline, c.now), tick.Left(c.deadline, c.now); due != c.due || left != c.left {
			t.Error(c, due, left)
		}
		if c.deadline != never && !c.due && !tick.Due(c.deadline, tick.Add(c.now, c.left)) {
			t.Error("due after what is left", c)
		}
	}
}

func TestDigit(t *testing.T) {
	for level, want := range []byte{3, 2, 1, 0} {
		if b, e := tick.Digit(66051, level); b != want || e != api.OK {
			t.Error(level, b, e)
		}
	}
	for _, level := range []int{-1, 8, 1<<63 - 1, -1 << 63} {
		if b, e := tick.Digit(never, level); b != 0 || e != api.ErrRange {
			t.Error(level, b, e)
		}
	}
	for _, x := range []api.Time{0, 1, 255, 256, never, never - 1, 0x0123456789abcdef} {
		var sum api.Time
		for level := range 8 {
			b, e := tick.Digit(x, level)
			if e != api.OK {
				t.Error(e)
			}
			sum |= api.Time(b) << (8 * level)
		}
		if sum != x {
			t.Error(x, sum)
		}
	}
}

func TestText(t *testing.T) {
	for x, want := range map[api.Time]string{0: "0", 120: "120", never: "never", never - 1: "18446744073709551614", 1 << 63: "9223372036854775808"} {
		if got := tick.Text(x); got != want {
			t.Error(x, got)
		}
		if got, e := tick.Parse(want); got != x || e != api.OK {
			t.Error(want, got, e)
		}
	}
	for _, s := range []string{"", "007", "00", "18446744073709551615", "18446744073709551616", "99999999999999999999999", "-1", "+1", "1 ", " 1", "1_0", "0x1", "Never", "never ", "1.0", "1e3", "٣"} {
		if x, e := tick.Parse(s); x != 0 || e != api.ErrFormat {
			t.Error(s, x, e)
		}
	}
}
