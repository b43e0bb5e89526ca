package cache

import (
	"cubbyhole/api"
	"cubbyhole/config"
	"cubbyhole/entry"
	"cubbyhole/event"
	"cubbyhole/tick"
)

// State returns the whole state.
func (c *Cache) State() api.CacheState {
	if c.isZero() {
		return api.CacheState{}
	}
	return api.CacheState{
		Config: c.config, Now: c.Now(), Births: c.Births(), Entries: c.Entries(),
		Probation: c.Order(api.Probation), Protected: c.Order(api.Protected), Events: c.events.List(),
	}
}

// Valid reports whether a state is one that a cache can have.
func Valid(s api.CacheState) bool {
	return config.Valid(s.Config) && validEntries(s) && validOrder(s) && validEvents(s)
}

// validEntries reports whether the entries of a state are valid, and within the budgets.
func validEntries(s api.CacheState) bool {
	if len(s.Entries) > s.Config.Count {
		return false
	}
	keys := make(map[string]struct{}, len(s.Entries))
	cost, before := 0, uint64(0)
	for _, x := range s.Entries {
		if _, ok := keys[x.Key]; ok || !entry.Valid(x) || x.Birth <= before || x.Birth > s.Births || tick.Due(x.Deadline, s.Now) {
			return false
		}
		keys[x.Key] = struct{}{}
		before = x.Birth
		cost += costOf(x)
	}
	return cost <= s.Config.Bytes
}

// validOrder reports whether each entry of a state with valid entries is in just one segment, and the protected ones
// do not cost too much.
func validOrder(s api.CacheState) bool {
	costs := make(map[uint64]int, len(s.Entries))
	for _, x := range s.Entries {
		costs[x.Birth] = costOf(x)
	}
	// take returns the cost of some entries that were not taken yet, and whether there are such.
	take := func(births []uint64) (sum int, ok bool) {
		for _, b := range births {
			cost, there := costs[b]
			if !there {
				return 0, false
			}
			delete(costs, b)
			sum += cost
		}
		return sum, true
	}
	_, ok := take(s.Probation)
	if !ok {
		return false
	}
	cost, ok := take(s.Protected)
	part, _ := config.Part(s.Config)
	// Every entry costs something: with one list, whose part is -1, there can be no protected ones.
	return ok && len(costs) == 0 && cost <= max(part, 0)
}

// validEvents reports whether the events of a state are valid, and in order.
func validEvents(s api.CacheState) bool {
	if len(s.Events) > event.MaxEvents {
		return false
	}
	before := api.Time(0)
	for _, v := range s.Events {
		if !event.Valid(v) || v.At < before || v.At > s.Now || v.Birth > s.Births {
			return false
		}
		before = v.At
	}
	return true
}

// Restore returns a cache with a state, or an error.
func Restore(s api.CacheState) (*Cache, api.Errno) {
	if !Valid(s) {
		return nil, api.ErrArg
	}
	c, e := at(s.Config, s.Now, s.Births)
	if e != api.OK {
		return nil, e
	}
	slots := make(map[uint64]uint32, len(s.Entries))
	for _, x := range s.Entries {
		slots[x.Birth] = c.insert(x)
	}
	// All are on probation now, in the order of their births: using the ones of a segment one after the other brings
	// them into its order.
	for _, b := range s.Probation {
		c.renew(slots[b])
	}
	for _, b := range s.Protected {
		_, cost, _ := c.order.Of(slots[b])
		c.use(slots[b], cost)
	}
	for _, v := range s.Events {
		_ = c.events.Add(v)
	}
	return c, api.OK
}

// renew makes a slot the newest one of probation.
func (c *Cache) renew(slot uint32) {
	_, cost, _ := c.order.Of(slot)
	_ = c.order.Remove(slot)
	_ = c.order.Add(slot, cost)
}
