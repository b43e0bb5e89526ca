package entry_test

import (
	"strings"
	"testing"

	"cubbyhole/api"
	"cubbyhole/entry"
)

func entryOf(t *testing.T, key string, value string, deadline api.Time, birth uint64) api.Entry {
	t.Helper()
	e, err := entry.New(key, []byte(value), deadline, birth)
	if err != api.OK {
		t.Fatal(err)
	}
	return e
}

func TestKeyCost(t *testing.T) {
	long, longer := strings.Repeat("k", 250), strings.Repeat("k", 251)
	if entry.ValidKey("") || !entry.ValidKey("\x00") || !entry.ValidKey(long) || entry.ValidKey(longer) {
		t.Error("key")
	}
	for _, c := range []struct {
		key   string
		value int
		cost  int
		e     api.Errno
	}{
		{"ab", 3, 53, api.OK}, {"", 0, 0, api.ErrArg}, {"k", 65537, 0, api.ErrLong}, {"k", 65536, 65585, api.OK}, {"k", 0, 49, api.OK},
		{longer, 65537, 0, api.ErrArg}, {long, 65536, 65834, api.OK}, {"", 65537, 0, api.ErrArg},
	} {
		if n, e := entry.Cost(c.key, make([]byte, c.value)); n != c.cost || e != c.e {
			t.Error(len(c.key), c.value, n, e)
		}
		x, e := entry.New(c.key, make([]byte, c.value), 7, 1)
		if e != c.e || (e == api.OK) != entry.Valid(x) || e != api.OK && !entry.Equal(x, api.Entry{}) {
			t.Error(len(c.key), c.value, e)
		}
		if entry.Valid(api.Entry{Key: c.key, Value: make([]byte, c.value), Birth: 1}) != (c.e == api.OK) {
			t.Error("valid", len(c.key), c.value)
		}
		if s, e := entry.Text(api.Entry{Key: c.key, Value: make([]byte, c.value), Birth: 1}); e != c.e || e != api.OK && s != "" {
			t.Error("text", len(c.key), c.value, e)
		}
	}
	if entry.Valid(api.Entry{Key: "k"}) || !entry.Valid(api.Entry{Key: "k", Birth: 1<<64 - 1, Deadline: 3}) {
		t.Error("valid")
	}
	if x, e := entry.New("k", make([]byte, 65537), 0, 0); e != api.ErrArg || x.Key != "" {
		t.Error(e)
	}
	if s, e := entry.Text(api.Entry{Key: "k", Value: make([]byte, 65537)}); e != api.ErrArg || s != "" {
		t.Error(e)
	}
}

func TestNewCopy(t *testing.T) {
	v := []byte{1, 2}
	x, e := entry.New("k", v, 9, 3)
	if e != api.OK || x.Key != "k" || string(x.Value) != "\x01\x02" || x.Deadline != 9 || x.Birth != 3 {
		t.Error(x, e)
	}
	v[0] = 7
	y := entry.Copy(x)
	if x.Value[0] != 1 || !entry.Equal(x, y) {
		t.Error("shared")
	}
	y.Value[1] = 7
	if x.Value[1] != 2 {
		t.Error("shared")
	}
	bad := api.Entry{Key: "", Value: []byte{4}}
	if !entry.Equal(entry.Copy(bad), bad) {
		t.Error("copy of an entry that is not valid")
	}
}

func TestEqualBefore(t *testing.T) {
	a := api.Entry{Key: "k", Value: []byte{1}, Deadline: 5, Birth: 2}
	of := func(key, value string, d api.Time, b uint64) api.Entry {
		return api.Entry{Key: key, Value: []byte(value), Deadline: d, Birth: b}
	}
	for i, b := range []api.Entry{of("j", "\x01", 5, 2), of("k", "\x02", 5, 2), of("k", "", 5, 2), of("k", "\x01\x01", 5, 2), of("k", "\x01", 6, 2), of("k", "\x01", 5, 3)} {
		if entry.Equal(a, b) || entry.Equal(b, a) || !entry.Equal(b, b) {
			t.Error(i)
		}
	}
	if !entry.Equal(api.Entry{Value: []byte{}}, api.Entry{}) {
		t.Error("no bytes")
	}
	at := func(d api.Time, b uint64) api.Entry { return api.Entry{Deadline: d, Birth: b} }
	for _, c := range []struct {
		a, b api.Entry
		want bool
	}{
		{at(5, 2), at(5, 3), true}, {at(5, 3), at(5, 2), false}, {at(4, 9), at(5, 1), true}, {at(5, 1), at(4, 9), false}, {at(5, 2), at(5, 2), false},
		{at(api.Never, 1), at(api.Never-1, 2), false}, {at(api.Never, 1), at(api.Never, 2), true}, {at(0, 1<<64-1), at(1, 0), true},
	} {
		if entry.Before(c.a, c.b) != c.want {
			t.Error(c)
		}
	}
}

func TestText(t *testing.T) {
	for text, x := range map[string]api.Entry{
		"3 9 6162 ff00": entryOf(t, "ab", "\xff\x00", 9, 3), "1 never 6b -": entryOf(t, "k", "", api.Never, 1), "18446744073709551615 0 2d 2d20": entryOf(t, "-", "- ", 0, 1<<64-1),
		"10 18446744073709551614 0aaf -":                                       entryOf(t, "\x0a\xaf", "", api.Never-1, 10),
		"7 1 " + strings.Repeat("00", 250) + " " + strings.Repeat("9f", 65536): entryOf(t, strings.Repeat("\x00", 250), strings.Repeat("\x9f", 65536), 1, 7),
	} {
		if s, e := entry.Text(x); s != text || e != api.OK {
			t.Error(s, e)
		}
		if y, e := entry.Parse(text); !entry.Equal(x, y) || e != api.OK {
			t.Error(text, y, e)
		}
	}
	for _, s := range []string{
		"", " ", "03 9 6162 ff00", "3 9 6162 FF00", "3 9 6162 fF00", "3 9 - ff00", "3 9 6162", "3 9 6162 ", "3 9 6162 f", "3 9 6162 ff0", "3 9 616 ff", "3 9 6162 ff00 ", " 3 9 6162 ff00",
		"3  9 6162 ff00", "3 9 6162 ff00 1", "0 9 6162 ff00", "3 09 6162 ff00", "3 18446744073709551615 61 -", "18446744073709551616 9 61 -", "3 9  ff", "3 9 61 --", "3 9 6g -", "3 9 /1 -", "3 9 :1 -", "3 9 `1 -",
		"3 9 61 é0", "+3 9 61 -", "-3 9 61 -", "3 +9 61 -", "3 Never 61 -", "3 9 61 -\n", "3 9 61 \x80\x80",
		"7 1 " + strings.Repeat("00", 251) + " -", "7 1 00 " + strings.Repeat("00", 65537),
	} {
		if x, e := entry.Parse(s); e != api.ErrFormat || !entry.Equal(x, api.Entry{}) {
			t.Error(s, x, e)
		}
	}
}
