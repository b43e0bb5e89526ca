package hash_test

import (
	"testing"

	"cubbyhole/hash"
)

func TestMix(t *testing.T) {
	for w, want := range map[uint64]uint64{0: 0, 1: 5, 1 << 29: 2684354565, 7: 35, 1 << 63: 1<<63 + 5<<34 + 1<<31 + 20} {
		if got := hash.Mix(w); got != want {
			t.Error(w, got, want)
		}
	}
}

func TestSum(t *testing.T) {
	h := hash.New(0, false)
	if h.Sum("") != 0 || h.Sum("a") != 533263140750623 || h.Sum("\x00\x00\x00\x01") != 5497558152575 || h.Sum("\x00\x00\x00\x04") != 21990232610300 {
		t.Error(h.Sum(""), h.Sum("a"))
	}
	same := hash.New(7, true)
	if same.Sum("a") != 35 || same.Sum("b") != 35 || same.Sum("") != 35 {
		t.Error(same.Sum("a"))
	}
	if s, b := same.Seed(); s != 7 || !b {
		t.Error(s, b)
	}
	if s, b := hash.New(1<<64-1, false).Seed(); s != 1<<64-1 || b {
		t.Error(s, b)
	}
	if hash.New(5, false).Sum("") != hash.Mix(5) {
		t.Error("empty key")
	}
	if hash.New(1, false).Sum("ab") == hash.New(1, false).Sum("ba") {
		t.Error("the order of bytes")
	}
	for _, key := range []string{"\xff\x80", "0123456789012345678901234567890123456789"} {
		s := uint64(99)
		for i := range len(key) {
			s = (s ^ uint64(key[i])) * (1<<40 + 435)
		}
		if hash.New(99, false).Sum(key) != hash.Mix(s) || hash.New(99, true).Sum(key) != hash.Mix(99) {
			t.Error(key)
		}
		// the hash of two parts
		s = (99 ^ uint64(key[0])) * (1<<40 + 435)
		if hash.New(99, false).Sum(key) != hash.New(s, false).Sum(key[1:]) {
			t.Error("parts")
		}
	}
}

func TestTagPart(t *testing.T) {
	if hash.Tag(533263140750623) != 31 || hash.Part(35) != 0 || hash.Tag(127) != 127 || hash.Tag(128) != 0 || hash.Part(1<<64-1) != 1<<57-1 {
		t.Error("tag or part")
	}
	for i := range uint64(2000) {
		s := hash.Mix(i * 0x9e3779b97f4a7c15)
		if hash.Tag(s) > 127 || hash.Part(s)*128+uint64(hash.Tag(s)) != s {
			t.Error(s)
		}
	}
}

func TestEqual(t *testing.T) {
	var zero hash.Hasher
	if zero != hash.New(0, false) || hash.New(1, false) == hash.New(2, false) || hash.New(1, false) == hash.New(1, true) || hash.New(3, true) != hash.New(3, true) {
		t.Error("equality")
	}
	if zero.Sum("a") != 533263140750623 {
		t.Error("zero value")
	}
}
