package control_test

import (
	"testing"

	"cubbyhole/api"
	"cubbyhole/control"
)

func group(b ...byte) (g uint64) {
	for i := range 8 {
		c := control.Empty
		if i < len(b) {
			c = b[i]
		}
		g |= uint64(c) << (8 * i)
	}
	return
}

func TestSets(t *testing.T) {
	g := group(5, 128, 254, 127)
	if control.Match(g, 5) != 1 || control.Match(g, 127) != 8 || control.Match(g, 0) != 0 || control.Match(g, 128) != 0 || control.Match(g, 254) != 0 {
		t.Error("match")
	}
	if control.Empties(g) != 242 || control.Free(g) != 246 || control.Full(g) != 9 {
		t.Error(control.Empties(g), control.Free(g), control.Full(g))
	}
	// of a word that is not a group
	w := group(129, 255, 0, 0, 253, 254)
	if control.Match(w, 129) != 0 || control.Match(w, 0) != 12 || control.Empties(w) != 192 || control.Free(w) != 224 || control.Full(w) != 12 {
		t.Error(control.Match(w, 0), control.Empties(w), control.Free(w), control.Full(w))
	}
}

func TestBlankValid(t *testing.T) {
	if control.Blank() != 0x8080808080808080 || !control.Valid(control.Blank()) || control.Valid(129) || !control.Valid(0) || control.Valid(1<<64-1) {
		t.Error("blank or valid")
	}
	for b := range 256 {
		for lane := range 8 {
			g := control.Blank()&^(255<<(8*lane)) | uint64(b)<<(8*lane)
			want := b <= 128 || b == 254
			if control.Valid(g) != want {
				t.Error(b, lane)
			}
			if want && control.Free(g)^control.Full(g) != 255 {
				t.Error("either free or full", b)
			}
		}
	}
}

func TestSet(t *testing.T) {
	g := group(1, 254, 3)
	for b := range 256 {
		for lane := range 8 {
			x, e := control.Set(g, lane, byte(b))
			if b > 128 && b != 254 {
				if x != 0 || e != api.ErrArg {
					t.Error(b, x, e)
				}
				continue
			}
			if want := g&^(255<<(8*lane)) | uint64(b)<<(8*lane); x != want || e != api.OK {
				t.Error(b, lane, x, e)
			}
			if b < 128 && control.Match(x, byte(b))>>lane&1 != 1 {
				t.Error("a lane matches its tag")
			}
		}
	}
	for _, lane := range []int{-1, 8, 1<<63 - 1} {
		if x, e := control.Set(g, lane, 1); x != 0 || e != api.ErrRange {
			t.Error(lane, x, e)
		}
		if x, e := control.Set(g, lane, 129); x != 0 || e != api.ErrArg {
			t.Error(lane, x, e)
		}
		if x, e := control.Set(129, lane, 1); x != 0 || e != api.ErrArg {
			t.Error(lane, x, e)
		}
		if x, e := control.Erase(g, lane); x != 0 || e != api.ErrRange {
			t.Error(lane, x, e)
		}
		if x, e := control.Erase(129, lane); x != 0 || e != api.ErrArg {
			t.Error(lane, x, e)
		}
	}
}

func TestErase(t *testing.T) {
	for _, c := range []struct {
		g    uint64
		lane int
		want string
		e    api.Errno
	}{
		{group(5, 128, 254, 127), 0, "- - x 127 - - - -", api.OK}, {group(5, 128, 254, 127), 3, "5 - x - - - - -", api.OK}, {group(5, 128, 254, 127), 1, "", api.ErrState}, {group(5, 128, 254, 127), 2, "", api.ErrState},
		{group(1, 2, 3, 4, 5, 6, 7, 8), 2, "1 2 x 4 5 6 7 8", api.OK}, {group(1, 254, 3, 4, 5, 6, 7, 8), 0, "x x 3 4 5 6 7 8", api.OK}, {group(0, 0, 0, 0, 0, 0, 0, 128), 6, "0 0 0 0 0 0 - -", api.OK},
	} {
		x, e := control.Erase(c.g, c.lane)
		if e != c.e || e != api.OK && x != 0 {
			t.Error(c, x, e)
			continue
		}
		if e == api.OK {
			if s, _ := control.Text(x); s != c.want || (control.Empties(x) != 0) != (control.Empties(c.g) != 0) {
				t.Error(c, s)
			}
		}
	}
}

func TestText(t *testing.T) {
	if s, e := control.Text(group(5, 128, 254, 127, 0, 10)); s != "5 - x 127 0 10 - -" || e != api.OK {
		t.Error(s, e)
	}
	for _, w := range []uint64{129, 255 << 56, 253 << 8} {
		if s, e := control.Text(w); s != "" || e != api.ErrArg {
			t.Error(w, s, e)
		}
	}
}
