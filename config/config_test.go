package config_test

import (
	"fmt"
	"testing"

	"cubbyhole/api"
	"cubbyhole/config"
)

func is(t *testing.T, want string) func(got ...any) {
	return func(got ...any) {
		t.Helper()
		if s := fmt.Sprint(got); s != "["+want+"]" {
			t.Errorf("got %s, want %s", s, want)
		}
	}
}

func of(count, bytes, protected int) api.Config {
	return api.Config{Count: count, Bytes: bytes, Protected: protected}
}

func TestCheck(t *testing.T) {
	for _, c := range []struct {
		c    api.Config
		want api.Errno
	}{
		{of(0, 0, 100), 240}, {of(1, 0, 100), 241}, {of(1, 1, 100), 242}, {of(1, 1, 99), 0}, {of(1, 1, 0), 0}, {of(1, 1, -1), 242}, {of(-1, 1, 1), 240}, {of(1<<20, 1<<40, 99), 0}, {of(1<<20+1, 1, 0), 240},
		{of(1, 1<<40+1, 0), 241}, {of(1, -1, 0), 241}, {api.Config{}, 240},
	} {
		_, part := config.Part(c.c)
		s, text := config.Text(c.c)
		r, resize := config.Resize(c.c, 1, 1)
		if config.Check(c.c) != c.want || config.Valid(c.c) != (c.want == 0) || part != c.want || text != c.want || resize != c.want || c.want != 0 && (s != "" || r != api.Config{}) {
			t.Error(c, part, text, resize)
		}
	}
	is(t, "{1024 1048576 80 0 false} true 240 241 242")(config.Default(), config.Valid(config.Default()), config.ErrCount, config.ErrBytes, config.ErrProtected)
}

func TestPart(t *testing.T) {
	is(t, "838860 0")(config.Part(config.Default()))
	is(t, "99 0")(config.Part(of(1, 199, 50)))
	is(t, "-1 0")(config.Part(of(1, 199, 0)))
	is(t, "0 0")(config.Part(of(1, 1, 99)))
	is(t, "1088516511498 0")(config.Part(of(1, 1<<40, 99)))
	is(t, "0 242")(config.Part(of(1, 1, 100)))
}

func TestText(t *testing.T) {
	same := of(1, 1, 0)
	same.Seed, same.Same = 1<<64-1, true
	for text, c := range map[string]api.Config{
		"count=1024 bytes=1048576 protected=80 seed=0 same=no":           config.Default(),
		"count=1 bytes=1 protected=0 seed=18446744073709551615 same=yes": same,
		"count=1048576 bytes=1099511627776 protected=99 seed=0 same=no":  of(1<<20, 1<<40, 99),
	} {
		s, e := config.Text(c)
		x, f := config.Parse(text)
		if s != text || e != api.OK || x != c || f != api.OK {
			t.Error(s, e, x, f)
		}
	}
	for _, s := range []string{
		"", "count=1 bytes=1 protected=0 seed=0 same=no ", "count=01 bytes=1 protected=0 seed=0 same=no", "count=1 bytes=1 protected=100 seed=0 same=no", "count=0 bytes=1 protected=0 seed=0 same=no", " count=1 bytes=1 protected=0 seed=0 same=no",
		"count=1 bytes=1 protected=0 seed=18446744073709551616 same=no", "count=1 bytes=1099511627777 protected=0 seed=0 same=no", "count=1 bytes=1 protected=0 seed=0 same=maybe", "count=1 bytes=1 protected=0 seed=0 same=", "count=1 bytes=1 protected=0 seed=0",
		"bytes=1 count=1 protected=0 seed=0 same=no", "count=1  bytes=1 protected=0 seed=0 same=no", "count=1 bytes=1 protected=0 seed=0 same=NO", "count=1 bytes=1 protected=0 seed=0 same=noyes", "count= bytes=1 protected=0 seed=0 same=no", "count=+1 bytes=1 protected=0 seed=0 same=no",
		"count=-1 bytes=1 protected=0 seed=0 same=no", "count=18446744073709551617 bytes=1 protected=0 seed=0 same=no", "count=1 bytes=1 protected=0 seed= same=no", "count=1 bytes=1 protected=0 seed=x same=no", "count=1 bytes=1 protected=0 seed=0 same=no\n", "count=1 bytes=1 protected=0 same=no",
		"same=yes", "count=1 count=1 bytes=1 protected=0 seed=0 same=no", "count=9223372036854775809 bytes=1 protected=0 seed=0 same=no",
	} {
		if c, e := config.Parse(s); c != (api.Config{}) || e != api.ErrFormat {
			t.Error(s, c, e)
		}
	}
}

func TestResize(t *testing.T) {
	is(t, "{5 7 80 0 false} 0")(config.Resize(config.Default(), 5, 7))
	is(t, "{0 0 0 0 false} 241")(config.Resize(config.Default(), 5, 0))
	is(t, "{0 0 0 0 false} 240")(config.Resize(config.Default(), 0, 0))
	is(t, "{0 0 0 0 false} 242")(config.Resize(of(1, 1, 100), 0, 0))
	c := of(3, 4, 5)
	c.Seed, c.Same = 9, true
	is(t, "{6 7 5 9 true} 0")(config.Resize(c, 6, 7))
	is(t, "{3 4 5 9 true} 0")(config.Resize(c, 3, 4))
}
