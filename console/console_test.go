package console_test

import (
	"fmt"
	"strings"
	"testing"

	"cubbyhole/api"
	"cubbyhole/console"
)

func is(t *testing.T, want string) func(got ...any) {
	return func(got ...any) {
		t.Helper()
		if s := fmt.Sprint(got); s != "["+want+"]" {
			t.Errorf("got %s, want %s", s, want)
		}
	}
}

// do does commands; each answer, or error, is compared with what is wanted, in which strokes stand for line feeds.
func do(t *testing.T, c *console.Console, pairs ...string) {
	t.Helper()
	for i := 0; i < len(pairs); i += 2 {
		answer, e := c.Do(pairs[i])
		got := strings.ReplaceAll(strings.TrimSuffix(answer, "\n"), "\n", "|")
		if e != api.OK {
			got = fmt.Sprint("error ", int(e))
			if answer != "" {
				t.Error("an answer with an error", answer)
			}
		} else if !strings.HasSuffix(answer, "\n") {
			t.Error("not a line", answer)
		}
		if got != pairs[i+1] {
			t.Errorf("%s: got %s, want %s", pairs[i], got, pairs[i+1])
		}
	}
}

func TestExamples(t *testing.T) {
	var c console.Console
	do(t, &c,
		"config count=2 bytes=1000 protected=0 seed=0 same=no", "ok", "new", "ok", "set 1 61 78", "ok", "set 1 62 - 5", "ok", "get 2 61", "hit 78", "get 2 63", "miss",
		"open", "0", "next 3 0", "1 never 61 78", "next 3 0", "2 6 62 -", "next 3 0", "error 14", "close 0", "ok",
		"set 4 63 -", "ok", "drain", "4 evicted 2 6 62 -", "entries", "1 never 61 78|3 never 63 -", "order", "probation 1 3|protected",
		"script g 00016101016100", "ok", "check g", "fine", "compact g", "same", "scores g lru 2", "lru at 2: 1 of 2, 1/2 50.00%", "names", "g",
		"get 01 61", "error 6", "get 1 6", "error 6", "show h", "error 9", "set 1 - 00", "error 2",
	)
}

func TestLab(t *testing.T) {
	var c console.Console
	do(t, &c,
		"names", "none", "script b -", "ok", "script a 0101610100", "ok", "names", "a b", "show b", "-", "show a", "0101610100", "script a 010161", "ok", "show a", "010161", "drop b", "ok", "drop b", "error 9", "names", "a",
		"script 1 00", "error 2", "script x 0", "error 6", "script x 0G", "error 6", "script x 0A", "error 6", "script x ", "error 6", "show x y", "error 6", "show", "error 6",
		"configs", "count=1024 bytes=1048576 protected=80 seed=0 same=no|count=1024 bytes=1048576 protected=80 seed=0 same=no",
		"other count=1 bytes=48 protected=0 seed=3 same=yes", "ok", "configs", "count=1024 bytes=1048576 protected=80 seed=0 same=no|count=1 bytes=48 protected=0 seed=3 same=yes",
		"config count=1 bytes=0 protected=0 seed=3 same=yes", "error 6", "config count=1", "error 6", "other count=01 bytes=48 protected=0 seed=3 same=yes", "error 6", "config count=1 bytes=100 protected=0 seed=5 same=no", "ok",
		"script g 000161010161020909000161", "ok", "run g", "run:|- ops 3|- errors 0|- gets 2|- hits 1|- sets 1|- expired 0|- evicted 0|- replaced 0|- deleted 0|- cleared 0|- len 1|- cost 51",
		"events g", "none", "script e 02016100000511016200", "ok", "events e", "1 evicted 1 5 61 -", "script x 020161000005f90000", "ok", "events x", "15 expired 1 5 61 -",
		"check g", "fine", "compact g", "same", "differ g", "first 1", "shrink g h", "tried 4", "names", "a e g h x", "show h", "010161020909", "differ h", "first 0",
		"shrink g 1", "error 2", "other count=1 bytes=100 protected=0 seed=7 same=yes", "ok", "differ g", "same", "shrink g h", "error 10",
		"scores g best 1", "best at 1: 2 of 3, 2/3 66.67%", "scores g Best 1", "error 6", "scores g best 01", "error 6", "scores g best 0", "error 2", "scores z best 1", "error 9", "scores z none 1", "error 6", "scores g tiny 1", "error 2",
		"journal h", "0006010161020909"+sum("0006010161020909"), "script n -", "ok", "journal n", "-", "run n", "run:|- ops 0|- errors 0|- gets 0|- hits 0|- sets 0|- expired 0|- evicted 0|- replaced 0|- deleted 0|- cleared 0|- len 0|- cost 0",
		"run z", "error 9", "events z", "error 9", "check z", "error 9", "compact z", "error 9", "differ z", "error 9", "shrink z y", "error 9", "journal z", "error 9",
	)
}

func TestCache(t *testing.T) {
	var c console.Console
	do(t, &c,
		"entries", "none", "drain", "none", "order", "probation|protected", "set 5 6b 01ff", "ok", "set 5 6b02 - never", "ok", "set 5 6c 00 0", "error 2", "set 5 6c 00 7", "ok", "touch 6 6b 3", "yes", "touch 6 6d 3", "no", "touch 6 6b 0", "error 2",
		"entries", "1 9 6b 01ff|2 never 6b02 -|3 12 6c 00", "order", "probation 2 3|protected 1", "get 6 6b02", "hit -", "delete 7 6b02", "yes", "delete 7 6b02", "no", "drain", "7 deleted 2 never 6b02 -", "advance 9", "ok", "drain", "9 expired 1 9 6b 01ff",
		"resize 9 0 5", "error 240", "resize 9 1 0", "error 241", "resize 9 1 999999999", "ok", "resize 9 1 1000000000", "error 6", "set 9 6d -", "ok", "drain", "9 evicted 3 12 6c 00", "clear 10", "cleared 1", "clear 10", "cleared 0", "drain", "10 cleared 4 never 6d -",
		"resize 10 5 48", "ok", "set 10 6d -", "error 12", "advance never", "ok", "advance 5", "ok", "set 5 6d", "error 6", "set 5", "error 6", "set 5 6d - 1 2", "error 6", "get 5", "error 6", "new", "ok", "advance 0", "ok", "set 1 6d - never", "ok", "entries", "1 never 6d -",
		"advance 999999999", "ok", "advance 1000000000", "error 6", "advance Never", "error 6", "advance -1", "error 6", "advance +1", "error 6", "advance ", "error 6", "advance 00", "error 6", "clear x", "error 6", "clear", "error 6", "", "error 6", " ", "error 6", "nothing", "error 6", " advance 1", "error 6", "advance  1", "error 6", "Advance 1", "error 6", "advance 1 ", "error 6", "advance 1\n", "error 6",
		"order", "probation 1|protected", "set 999999999 61 -", "ok", "get 0 6d", "hit -", "get 0 6d00", "miss", "get 0 6d0", "error 6",
		"get 1 "+strings.Repeat("61", 251), "error 2", "get 1 "+strings.Repeat("61", 250), "miss", "delete 1 -", "error 2", "delete 1 zz", "error 6",
	)
}

func TestCursors(t *testing.T) {
	var c console.Console
	do(t, &c, "next 0 0", "error 9", "close 0", "error 9", "open", "0", "open", "1", "set 1 61 -", "ok", "next 1 1", "1 never 61 -", "next 1 1", "error 14", "close 0", "ok", "open", "0", "close x", "error 6", "next 1 x", "error 6", "next x 1", "error 6", "close never", "error 6", "new", "ok", "close 0", "error 9", "open", "0")
	for range 63 {
		_, _ = c.Do("open")
	}
	do(t, &c, "open", "error 7")
}

func TestSaveLoad(t *testing.T) {
	var c console.Console
	do(t, &c, "config count=1 bytes=100 protected=0 seed=300 same=no", "ok", "new", "ok", "save", "43424801"+"016400ac0200000000000000"+sum("016400ac0200000000000000"), "set 5 61 42", "ok", "open", "0")
	saved, _ := c.Do("save")
	saved = strings.TrimSuffix(saved, "\n")
	do(t, &c, "set 6 62 43", "ok", "load "+saved, "ok", "close 0", "error 9", "entries", "1 never 61 42", "drain", "none", "save", saved, "load -", "error 4", "load "+saved[:len(saved)-2]+"00", "error 10", "load 00", "error 4", "load 0", "error 6", "load 434248020000000"+"0", "error 6", "entries", "1 never 61 42")
}

// sum returns the sum of a body that is written with two digits for each byte.
func sum(hex string) string {
	s := uint32(5381)
	for i := 0; i < len(hex); i += 2 {
		var b uint32
		_, _ = fmt.Sscanf(hex[i:i+2], "%02x", &b)
		s = 33*s ^ b
	}
	return fmt.Sprintf("%08x", s)
}

func TestRun(t *testing.T) {
	var c console.Console
	text := "set 1 61 78\nget 1 61\nx\n\nget 1 62\nopen\nnext 1 0\nnext 1 0"
	want := "ok\nhit 78\nerror 6\nerror 6\nmiss\n0\n1 never 61 78\nerror 14\n"
	got, e := c.Run(text)
	is(t, want+" 0")(got, e)
	var d console.Console
	got, e = d.Run(text + "\n")
	is(t, want+" 0")(got, e)
	for cut := range text {
		if text[cut] != '\n' {
			continue
		}
		var f console.Console
		one, _ := f.Run(text[:cut+1])
		two, _ := f.Run(text[cut+1:])
		if one+two != want {
			t.Error(cut, one+two)
		}
	}
	got, e = c.Run("")
	is(t, " 0")(got, e)
	got, e = c.Run("\n")
	is(t, "error 6\n 0")(got, e)
	got, e = c.Run(strings.Repeat("x\n", 300))
	is(t, strings.Repeat("error 6\n", 300)+" 0")(got, e)
	got, e = c.Run(strings.Repeat("x\n", 301))
	is(t, " 5")(got, e)
	got, e = c.Run(strings.Repeat("x\n", 300) + "y")
	is(t, " 5")(got, e)
	got, e = c.Run(strings.Repeat("x", 1<<16+1))
	is(t, " 5")(got, e)
	got, e = c.Run(strings.Repeat("x", 1<<16))
	is(t, "error 5\n 0")(got, e)
	got, e = c.Do(strings.Repeat("x", 20001))
	is(t, " 5")(got, e)
	got, e = c.Do(strings.Repeat("x", 20000))
	is(t, " 6")(got, e)
	got, e = c.Do("script long " + strings.Repeat("00", 4097))
	is(t, " 5")(got, e)
	var none *console.Console
	got, e = none.Do(strings.Repeat("x", 20001))
	is(t, " 1")(got, e)
	got, e = none.Run(strings.Repeat("x", 1<<16+1))
	is(t, " 1 true")(got, e, none.Copy() == nil)
}

func TestCopy(t *testing.T) {
	var zero console.Console
	x := zero.Copy()
	do(t, x, "entries", "none", "set 1 61 78", "ok", "open", "0", "script a 00", "ok", "config count=1 bytes=1 protected=0 seed=0 same=no", "ok")
	do(t, &zero, "entries", "none", "names", "none")
	y := x.Copy()
	do(t, y, "set 1 62 -", "ok", "next 1 0", "1 never 61 78", "open", "1", "drop a", "ok", "other count=2 bytes=1 protected=0 seed=0 same=no", "ok", "advance 9", "ok")
	do(t, x, "entries", "1 never 61 78", "names", "a", "configs", "count=1 bytes=1 protected=0 seed=0 same=no|count=1024 bytes=1048576 protected=80 seed=0 same=no", "next 1 0", "1 never 61 78", "open", "1")
	do(t, y, "entries", "1 never 61 78|2 never 62 -", "names", "none", "next 1 0", "2 never 62 -")
}

func TestSeeds(t *testing.T) {
	lines := "new\nset 1 61 78\nset 2 62 - 5\nget 2 61\nopen\nnext 3 0\nset 4 63 -\nscript g 000161010161020909000161\nrun g\nevents g\ndiffer g\nscores g twoq 3\njournal g\norder\nentries\nclear 9\ndrain\n"
	var want string
	for i, seed := range []string{"seed=0 same=no", "seed=18446744073709551615 same=no", "seed=7 same=yes"} {
		var c console.Console
		got, e := c.Run("config count=2 bytes=1000 protected=50 " + seed + "\n" + lines)
		if i == 0 {
			want = got
		}
		if got != want || e != api.OK || strings.Contains(got, "error ") {
			t.Error(seed, got)
		}
	}
}

// TestWords does each command with a word more and with a word less.
func TestWords(t *testing.T) {
	var c console.Console
	do(t, &c, "script g 000161", "ok", "open", "0", "set 1 61 -", "ok")
	text := "count=2 bytes=1000 protected=0 seed=0 same=no"
	for _, line := range []string{"script a 00", "show g", "drop g", "names", "config " + text, "other " + text, "configs", "run g", "events g", "check g", "compact g", "differ g", "shrink g h", "scores g lru 2", "journal g", "new", "get 1 61", "touch 1 61 5", "delete 1 61", "resize 1 2 100", "clear 1", "advance 1", "entries", "order", "drain", "open", "close 0", "next 1 0", "save", "load -"} {
		do(t, &c, line+" 0", "error 6", line+" ", "error 6")
		if i := strings.LastIndexByte(line, ' '); i > 0 {
			do(t, &c, line[:i], "error 6")
		}
	}
	do(t, &c, "set 1 61", "error 6", "set 1 61 - 5 5", "error 6", "show g", "000161", "entries", "1 never 61 -", "open", "1")
	for range 9 {
		_, _ = c.Do("set 1 62 -")
		_, _ = c.Do("delete 1 62")
	}
	do(t, &c, "set 1 63 -", "ok", "order", "probation 1 11|protected")
}
