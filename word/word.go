// Package word: words of 8 bytes and their lanes (layer 1).
package word

import (
	"iter"
	"math/bits"

	"cubbyhole/api"
)

// Lanes is the number of lanes of a word.
const Lanes = 8

const (
	ones  uint64 = 0x0101010101010101 // the lowest bit of each lane
	highs uint64 = ones << 7          // the highest bit of each lane
	// A product with gather has the bits 0, 8, 16 .. of a number side by side in its highest byte: no two
	// of its terms meet in a bit, so nothing is carried.
	gather uint64 = 0x0102040810204080
)

// Repeat returns the word all of whose lanes are a byte.
func Repeat(b byte) uint64 { return ones * uint64(b) }

// Load returns the word with the first 8 bytes of a list, or an error.
func Load(b []byte) (uint64, api.Errno) {
	if len(b) < Lanes {
		return 0, api.ErrShort
	}
	var w uint64
	for i, x := range b[:Lanes] {
		w |= uint64(x) << (8 * i)
	}
	return w, api.OK
}

// Bytes returns the lanes of a word.
func Bytes(w uint64) [Lanes]byte {
	var b [Lanes]byte
	for i := range b {
		b[i] = byte(w >> (8 * i))
	}
	return b
}

// Lane returns a lane of a word, or an error.
func Lane(w uint64, lane int) (byte, api.Errno) {
	if lane < 0 || lane >= Lanes {
		return 0, api.ErrRange
	}
	return byte(w >> (8 * lane)), api.OK
}

// With returns a word with another byte in a lane, or an error.
func With(w uint64, lane int, b byte) (uint64, api.Errno) {
	if lane < 0 || lane >= Lanes {
		return 0, api.ErrRange
	}
	return w&^(uint64(255)<<(8*lane)) | uint64(b)<<(8*lane), api.OK
}

// Match returns the set of the lanes that are a byte.
func Match(w uint64, b byte) uint8 {
	x := w ^ Repeat(b)
	// The sum of the lower seven bits of a lane and 127 stays within the lane, unlike a difference, so that
	// a lane that matches does not spoil the one above it.
	other := (x&^highs + ^highs) | x
	return High(^other)
}

// High returns the set of the lanes that are 128 or more.
func High(w uint64) uint8 { return uint8((w & highs >> 7) * gather >> 56) }

// First returns the lowest lane of a set, or Lanes.
func First(set uint8) int { return bits.TrailingZeros8(set) }

// Count returns how many lanes a set has.
func Count(set uint8) int { return bits.OnesCount8(set) }

// All returns an iterator over the lanes of a set.
func All(set uint8) iter.Seq[int] {
	return func(yield func(int) bool) {
		for s := set; s != 0; s &= s - 1 {
			if !yield(First(s)) {
				return
			}
		}
	}
}
