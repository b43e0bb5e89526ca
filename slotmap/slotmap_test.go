package slotmap_test

import (
	"testing"

	"cubbyhole/slotmap"
)

func TestSlots(t *testing.T) {
	var s slotmap.Slots
	if _, ok := s.Slot(5); ok || s.Len() != 0 || s.Key(3) != 0 {
		t.Error("zero value")
	}
	if a, b, c := s.Put(5), s.Put(1<<32-1), s.Put(0); a != 0 || b != 1 || c != 2 {
		t.Error(a, b, c)
	}
	x := s.Copy()
	if slot, ok := s.Take(1<<32 - 1); slot != 1 || !ok || s.Len() != 2 {
		t.Error(slot, ok)
	}
	if slot, ok := s.Take(1<<32 - 1); slot != 0 || ok {
		t.Error(slot, ok)
	}
	if s.Key(3) != 0 {
		t.Error("no such slot")
	}
	y := s.Copy()
	if a, b := s.Put(8), y.Put(9); a != 1 || b != 1 || s.Key(1) != 8 || y.Key(1) != 9 {
		t.Error(a, b)
	}
	z := s.Copy()
	_, _ = s.Take(8)
	y = s.Copy()
	_, _ = s.Take(5)
	_, _ = y.Take(0)
	if a, b := s.Put(5), y.Put(0); a != 0 || b != 2 || z.Len() != 3 {
		t.Error(a, b)
	}
	if slot := s.Put(7); slot != 1 || s.Key(1) != 7 || x.Key(1) != 1<<32-1 || x.Len() != 3 {
		t.Error(slot)
	}
	if slot, ok := s.Slot(7); slot != 1 || !ok {
		t.Error(slot, ok)
	}
	if l := s.Keys([]uint32{0, 1, 2}); len(l) != 3 || l[0] != 0 || l[1] != 7 || l[2] != 5 {
		t.Error(l)
	}
}
