// Package slotmap: slot numbers for keys that are any numbers of 32 bits, for the lists that have slots below a bound.
package slotmap

import (
	"maps"
	"slices"
)

// Slots are keys with slot numbers; the zero value has none.
type Slots struct {
	keys  []uint32 // by slots
	free  []uint32
	slots map[uint32]uint32
}

// Slot returns the slot of a key, and whether it has one.
func (s *Slots) Slot(key uint32) (uint32, bool) {
	slot, ok := s.slots[key]
	return slot, ok
}

// Key returns the key of a slot.
func (s *Slots) Key(slot uint32) uint32 {
	if int64(slot) >= int64(len(s.keys)) {
		return 0
	}
	return s.keys[slot]
}

// Keys returns the keys of slots, in reversed order.
func (s *Slots) Keys(slots []uint32) []uint32 {
	l := make([]uint32, 0, len(slots))
	for _, slot := range slots {
		l = append(l, s.Key(slot))
	}
	slices.Reverse(l)
	return l
}

// Put gives a key that has none a slot, and returns it: the one that was freed last, so that there are never more
// slots than there were keys at one time.
func (s *Slots) Put(key uint32) uint32 {
	if s.slots == nil {
		s.slots = map[uint32]uint32{}
	}
	slot := uint32(len(s.keys))
	if last := len(s.free) - 1; last >= 0 {
		slot = s.free[last]
		s.free = s.free[:last]
		s.keys[slot] = key
	} else {
		s.keys = append(s.keys, key)
	}
	s.slots[key] = slot
	return slot
}

// Take takes the slot of a key away, and returns it, and whether it had one.
func (s *Slots) Take(key uint32) (uint32, bool) {
	slot, ok := s.slots[key]
	if ok {
		delete(s.slots, key)
		s.free = append(s.free, slot)
	}
	return slot, ok
}

// Len returns the number of keys.
func (s *Slots) Len() int { return len(s.slots) }

// Copy returns an independent copy.
func (s *Slots) Copy() Slots {
	return Slots{slices.Clone(s.keys), slices.Clone(s.free), maps.Clone(s.slots)}
}
