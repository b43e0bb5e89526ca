package cache

import (
	"cubbyhole/api"
	"cubbyhole/compact"
	"cubbyhole/config"
	"cubbyhole/entry"
	"cubbyhole/event"
	"cubbyhole/tick"
	"cubbyhole/victim"
)

// lanes is the number of lanes of a group of the index.
const lanes = 8

// test looks for one error. It is a function, since a nil cache has nothing to look at.
type test func() api.Errno

// check returns the first error of some tests, before which it looks for a nil or zero cache.
func (c *Cache) check(tests ...test) api.Errno {
	if c.isZero() {
		return api.ErrNil
	}
	for _, t := range tests {
		if e := t(); e != api.OK {
			return e
		}
	}
	return api.OK
}

// isKey tests whether a string is a key.
func isKey(key string) test {
	return func() api.Errno { return unless(entry.ValidKey(key), api.ErrArg) }
}

// isTTL tests a number of ticks.
func isTTL(ttl api.Time) test {
	return func() api.Errno { return unless(ttl != 0, api.ErrArg) }
}

// isSize tests budgets.
func isSize(c *Cache, count, bytes int) test {
	return func() api.Errno {
		_, e := config.Resize(c.config, count, bytes)
		return e
	}
}

// fits tests whether a key and a value can be in the cache at all.
func fits(c *Cache, key string, value []byte) test {
	return func() api.Errno {
		cost, e := entry.Cost(key, value)
		if e != api.OK {
			return e
		}
		return unless(cost <= c.config.Bytes, api.ErrTooBig)
	}
}

// hasRoom tests whether an event of each entry has room: so none is lost, whatever an operation does.
func hasRoom(c *Cache) test {
	return func() api.Errno { return unless(c.events.Len()+c.Len() <= event.MaxEvents, api.ErrFull) }
}

// canBeBorn tests whether there is a birth number for a key that will need one.
func canBeBorn(c *Cache, t api.Time, key string) test {
	return func() api.Errno {
		if c.births.Last() != 1<<64-1 {
			return api.OK
		}
		slot, e := c.dict.Find(key)
		if e != api.OK {
			return api.ErrFull
		}
		deadline, _, _ := c.deadlines.Get(slot)
		return unless(!tick.Due(deadline, tick.Effective(c.Now(), t)), api.ErrFull)
	}
}

// unless returns an error unless something is so.
func unless(so bool, e api.Errno) api.Errno {
	if so {
		return api.OK
	}
	return e
}

// do makes an operation at a time, whose effect returns the slot that must not be evicted by it.
func (c *Cache) do(t api.Time, effect func() uint32) {
	for _, x := range c.deadlines.Expire(t) {
		c.leave(x.Slot, api.Expired)
	}
	c.evict(effect())
	if log, _, _ := c.dict.Sizes(); compact.Due(log, c.Len()) {
		c.compact()
	}
}

// evict lets the victims leave, as long as the budgets are exceeded.
func (c *Cache) evict(keep uint32) {
	if count, cost := c.budget.Over(); count == 0 && cost == 0 {
		return
	}
	count, bytes := c.budget.Limits()
	l, _ := victim.Choose(c.order.List(api.Probation), c.order.List(api.Protected), keep, count, bytes)
	for _, slot := range l {
		c.leave(slot, api.Evicted)
	}
}

// leave lets an entry leave.
func (c *Cache) leave(slot uint32, kind api.EventKind) {
	x, _ := c.dict.Remove(slot)
	g, cost, _ := c.order.Of(slot)
	_ = c.order.Remove(slot)
	_ = c.budget.Remove(g, cost)
	_ = c.deadlines.Remove(slot) // one that has expired is not there any more
	c.tell(x, kind)
}

// tell adds an event of an entry.
func (c *Cache) tell(x api.Entry, kind api.EventKind) {
	_ = c.events.Add(api.Event{Kind: kind, Key: x.Key, Value: x.Value, Birth: x.Birth, Deadline: x.Deadline, At: c.Now()})
}

// find returns the entry of a key, with which something is done if it is there, and whether it is.
func (c *Cache) find(key string, do func(slot uint32, x api.Entry)) (api.Entry, bool) {
	slot, e := c.dict.Find(key)
	if e != api.OK {
		return api.Entry{}, false
	}
	x, _ := c.dict.Get(slot)
	do(slot, x)
	return x, true
}

// put sets a key to a value with a deadline, and returns its slot.
func (c *Cache) put(key string, value []byte, deadline api.Time) (slot uint32) {
	_, there := c.find(key, func(at uint32, x api.Entry) {
		slot = at
		c.tell(x, api.Replaced)
		c.change(slot, x, value, deadline)
	})
	if !there {
		number, _ := c.births.Next()
		slot = c.insert(api.Entry{Key: key, Value: value, Deadline: deadline, Birth: number})
	}
	return slot
}

// change gives an entry another value and another deadline, and uses it.
func (c *Cache) change(slot uint32, x api.Entry, value []byte, deadline api.Time) {
	_ = c.dict.Set(slot, value, deadline)
	_ = c.deadlines.Set(slot, deadline, x.Birth)
	cost, _ := entry.Cost(x.Key, value)
	c.use(slot, cost)
}

// insert adds a new entry on probation, and returns its slot.
func (c *Cache) insert(x api.Entry) uint32 {
	slot, _ := c.dict.Insert(x)
	_ = c.deadlines.Set(slot, x.Deadline, x.Birth)
	_ = c.order.Add(slot, costOf(x))
	_ = c.budget.Add(api.Probation, costOf(x))
	return slot
}

// use uses a slot, which has a cost then. The budget follows from one segment to the other one.
func (c *Cache) use(slot uint32, cost int) {
	from, was, _ := c.order.Of(slot)
	demoted, _ := c.order.Use(slot, cost)
	_ = c.budget.Change(from, was, cost)
	if from == api.Probation && c.config.Protected != 0 {
		_ = c.budget.Move(api.Probation, cost)
	}
	c.demoted(demoted)
}

// demoted tells the budget which slots were demoted.
func (c *Cache) demoted(slots []uint32) {
	for _, slot := range slots {
		_, cost, _ := c.order.Of(slot)
		_ = c.budget.Move(api.Protected, cost)
	}
}

// resize sets the budgets, and the limit of protected entries with them.
func (c *Cache) resize(count, bytes int) {
	c.config, _ = config.Resize(c.config, count, bytes)
	_ = c.budget.Set(count, bytes)
	limit, _ := config.Part(c.config)
	demoted, _ := c.order.Limit(limit)
	c.demoted(demoted)
}

// compact gives all entries new slots.
func (c *Cache) compact() {
	fresh, moves, e := compact.Dict(c.dict)
	if e != api.OK {
		return
	}
	after, before := moves.Len()
	to := make([]uint32, before)
	for slot := range uint32(after) {
		old, _ := moves.From(slot)
		to[old] = slot
	}
	_ = c.order.Renumber(to)
	_ = c.deadlines.Renumber(to)
	c.dict = fresh
}

// birthOf returns the birth number of a slot.
func (c *Cache) birthOf(slot uint32) uint64 {
	_, number, _ := c.deadlines.Get(slot)
	return number
}

// after returns the slot of the entry with the least birth number above one, or an error. Birth numbers increase in
// the log, so that half of what is left can be left out each time.
func (c *Cache) after(number uint64) (uint32, api.Errno) {
	from, _, _ := c.dict.Sizes()
	low, high := uint32(0), uint32(from)
	for low < high {
		middle := low + (high-low)/2
		slot, e := c.dict.Next(middle)
		if e != api.OK || c.birthOf(slot) > number {
			high = middle
		} else {
			low = slot + 1
		}
	}
	return c.dict.Next(low)
}
