package contest

import (
	"cubbyhole/api"
	"cubbyhole/lru"
	"cubbyhole/segment"
	"cubbyhole/slotmap"
)

const (
	keyCost   = 1
	protected = 80 // hundredths of the size
)

// plain is a plain LRU list of keys with a size.
type plain struct {
	size  int
	slots slotmap.Slots
	order *lru.LRU
}

// newPlain returns a plain LRU list without keys.
func newPlain(size int) *plain { return &plain{size: size, order: lru.New()} }

// Use makes a request for a key, and returns what is done with it, or an error.
func (p *plain) Use(key uint32) (api.Turn, api.Errno) {
	if slot, ok := p.slots.Slot(key); ok {
		return api.Turn{Hit: true}, p.order.Use(slot)
	}
	var turn api.Turn
	if p.Len() == p.size {
		slot, _ := p.order.Oldest()
		_ = p.order.Remove(slot)
		turn = leave(&p.slots, slot)
	}
	return turn, p.order.Add(p.slots.Put(key))
}

// leave takes the key of a slot out, and returns that it has left.
func leave(slots *slotmap.Slots, slot uint32) api.Turn {
	key := slots.Key(slot)
	_, _ = slots.Take(key)
	return api.Turn{Left: true, Out: key}
}

// Has reports whether a key is there.
func (p *plain) Has(key uint32) bool {
	_, ok := p.slots.Slot(key)
	return ok
}

// Len returns the number of keys.
func (p *plain) Len() int { return p.slots.Len() }

// segmented is a segmented LRU list of keys with a size.
type segmented struct {
	size  int
	slots slotmap.Slots
	order *segment.Segments
}

// newSegmented returns a segmented LRU list without keys, or an error.
func newSegmented(size int) (*segmented, api.Errno) {
	order, e := segment.New(protected * size / 100)
	return &segmented{size: size, order: order}, e
}

// Use makes a request for a key, and returns what is done with it, or an error.
func (p *segmented) Use(key uint32) (api.Turn, api.Errno) {
	if slot, ok := p.slots.Slot(key); ok {
		_, e := p.order.Use(slot, keyCost)
		return api.Turn{Hit: true}, e
	}
	var turn api.Turn
	if p.Len() == p.size {
		slot := p.oldest()
		_ = p.order.Remove(slot)
		turn = leave(&p.slots, slot)
	}
	return turn, p.order.Add(p.slots.Put(key), keyCost)
}

// oldest returns the oldest slot of probation, or of protected, if there is none.
func (p *segmented) oldest() uint32 {
	l := p.order.List(api.Probation)
	if len(l) == 0 {
		l = p.order.List(api.Protected)
	}
	return l[0].Slot
}

// Has reports whether a key is there.
func (p *segmented) Has(key uint32) bool {
	_, ok := p.slots.Slot(key)
	return ok
}

// Len returns the number of keys.
func (p *segmented) Len() int { return p.slots.Len() }
