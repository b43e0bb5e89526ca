package record_test

import (
	"bytes"
	"testing"

	"cubbyhole/api"
	"cubbyhole/record"
	"cubbyhole/script"
)

func TestFold(t *testing.T) {
	if record.Fold(record.Start) != 5381 || record.Fold(5381, []byte{1}) != 33*5381^1 || record.Fold(7, []byte{1}, nil, []byte{2, 3}) != record.Fold(record.Fold(7, []byte{1, 2}), []byte{3}) {
		t.Error("fold")
	}
	if !bytes.Equal(record.Bytes(0x01020304), []byte{1, 2, 3, 4}) {
		t.Error("bytes")
	}
}

func TestRecord(t *testing.T) {
	o := api.Op{Kind: api.OpGet, Key: "a"}
	b, ok := record.Of(o, 9)
	if !ok || !bytes.Equal(b[:5], []byte{0, 3, 0, 1, 97}) || !bytes.Equal(b[5:], record.Bytes(record.Fold(9, b[:5]))) {
		t.Error(b, ok)
	}
	if x, n, ok := record.Next(append(bytes.Clone(b), 1, 2), 9); !ok || n != 9 || !script.Equal(x, o) {
		t.Error(x, n, ok)
	}
	if _, _, ok := record.Next(b, 8); ok {
		t.Error("another sum")
	}
	for i := range b {
		if _, n, ok := record.Next(b[:i], 9); ok || n != 0 {
			t.Error(i)
		}
	}
	if b, ok := record.Of(api.Op{}, 9); ok || b != nil {
		t.Error(b)
	}
	// a key with a higher byte for its length is read as the same operation
	c := []byte{0, 3, 0, 33, 97}
	if _, _, ok := record.Next(append(c, record.Bytes(record.Fold(9, c))...), 9); ok {
		t.Error("not what is written")
	}
	d := []byte{0, 2, 9, 9}
	if _, _, ok := record.Next(append(d, record.Bytes(record.Fold(9, d))...), 9); ok {
		t.Error("two operations")
	}
}

// TestLong has a record whose length needs both bytes.
func TestLong(t *testing.T) {
	o := api.Op{Kind: api.OpSet, Key: "a", Value: make([]byte, 255)}
	b, ok := record.Of(o, 1)
	if !ok || b[0] != 1 || b[1] != 3 || len(b) != 6+259 {
		t.Error(b[:2], len(b), ok)
	}
	x, n, ok := record.Next(b, 1)
	if !ok || n != len(b) || !script.Equal(x, o) {
		t.Error(n, ok)
	}
}
