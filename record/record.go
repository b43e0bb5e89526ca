// Package record: check sums, and operations as records with them, for the layers that keep or send operations.
package record

import (
	"bytes"

	"cubbyhole/api"
	"cubbyhole/script"
)

// Start is the sum of no bytes.
const Start uint32 = 5381

// SumSize is how many bytes of a record are its sum.
const SumSize = 4

const (
	factor  = 33
	lenSize = 2
)

// Fold returns the sum after some bytes, slice by slice.
func Fold(sum uint32, parts ...[]byte) uint32 {
	for _, part := range parts {
		for _, b := range part {
			sum = factor*sum ^ uint32(b)
		}
	}
	return sum
}

// Bytes returns the bytes of a sum, the highest one first.
func Bytes(sum uint32) []byte {
	return []byte{byte(sum >> 24), byte(sum >> 16), byte(sum >> 8), byte(sum)}
}

// Of returns the record of an operation after a sum, and whether it has one.
func Of(o api.Op, sum uint32) ([]byte, bool) {
	b, e := script.Write([]api.Op{o})
	if e != api.OK {
		return nil, false
	}
	head := []byte{byte(len(b) >> 8), byte(len(b))}
	sum = Fold(sum, head, b)
	return append(append(head, b...), Bytes(sum)...), true
}

// Next returns the operation whose record after a sum is at the beginning of some bytes, how many bytes it has, and
// whether there is one.
func Next(b []byte, sum uint32) (o api.Op, n int, ok bool) {
	if len(b) < lenSize {
		return api.Op{}, 0, false
	}
	n = lenSize + int(b[0])<<8 + int(b[1]) + SumSize
	if len(b) < n {
		return api.Op{}, 0, false
	}
	l, e := script.Parse(b[lenSize : n-SumSize])
	if e != api.OK || len(l) != 1 {
		return api.Op{}, 0, false
	}
	// An operation has just one record: other bytes that are read as the operation are none.
	r, ok := Of(l[0], sum)
	if !ok || !bytes.Equal(r, b[:n]) {
		return api.Op{}, 0, false
	}
	return l[0], n, true
}
