package audit

import (
	"cmp"
	"slices"

	"cubbyhole/api"
	"cubbyhole/config"
	"cubbyhole/cursor"
	"cubbyhole/entry"
	"cubbyhole/tick"
)

// item is an entry that is there, and when it was used last.
type item struct {
	api.Entry
	used int
}

// known is what is known after some results.
type known struct {
	config api.Config // with the Count and the Bytes as they are
	now    api.Time
	births uint64
	items  []item // by their birth numbers
	cost   int
	open   [cursor.MaxCursors]bool
	places [cursor.MaxCursors]uint64
	uses   int
}

// fault is an error, and whether there is it.
type fault struct {
	there bool
	e     api.Errno
}

// first returns the first error that there is.
func first(l ...fault) api.Errno {
	for _, f := range l {
		if f.there {
			return f.e
		}
	}
	return api.OK
}

// costOf returns what a valid entry costs.
func costOf(x api.Entry) int {
	cost, _ := entry.Cost(x.Key, x.Value)
	return cost
}

// rightError returns the error that an operation at a time must have.
func (k *known) rightError(o api.Op, at api.Time) api.Errno {
	badKey := fault{!entry.ValidKey(o.Key), api.ErrArg}
	badTTL := fault{o.TTL == 0, api.ErrArg}
	cost, costError := entry.Cost(o.Key, o.Value)
	tooLong := fault{costError == api.ErrLong, api.ErrLong}
	tooBig := fault{cost > k.config.Bytes, api.ErrTooBig}
	notOpen := fault{!k.isOpen(o.Cursor), api.ErrNone}
	switch o.Kind {
	case api.OpSet:
		return first(badKey, tooLong, tooBig)
	case api.OpSetTTL:
		return first(badKey, badTTL, tooLong, tooBig)
	case api.OpGet, api.OpPeek, api.OpDelete:
		return first(badKey)
	case api.OpTouch:
		return first(badKey, badTTL)
	case api.OpResize:
		_, e := config.Resize(k.config, o.Count, o.Bytes)
		return e
	case api.OpOpen:
		return first(fault{k.lowest() == cursor.MaxCursors, api.ErrFull})
	case api.OpSeek, api.OpClose:
		return first(notOpen)
	case api.OpNext:
		if e := first(notOpen); e != api.OK {
			return e
		}
		return first(fault{k.after(k.places[o.Cursor], at).Birth == 0, api.ErrEnd})
	}
	return api.OK
}

// isRefused reports whether an operation with an error has not even let the time pass.
func isRefused(o api.Op, e api.Errno) bool {
	switch o.Kind {
	case api.OpOpen, api.OpSeek, api.OpClose:
		return false
	}
	return e != api.OK && e != api.ErrEnd
}

// isOpen reports whether a number is that of an open cursor.
func (k *known) isOpen(n int) bool { return n >= 0 && n < len(k.open) && k.open[n] }

// lowest returns the lowest number that no open cursor has.
func (k *known) lowest() int {
	n := 0
	for n < len(k.open) && k.open[n] {
		n++
	}
	return n
}

// after returns the entry with the least birth number above one that is not due at a time, or the zero value.
func (k *known) after(birth uint64, at api.Time) api.Entry {
	for _, i := range k.items {
		if i.Birth > birth && !tick.Due(i.Deadline, at) {
			return i.Entry
		}
	}
	return api.Entry{}
}

// due returns the entries that are due at a time, in the order in which they expire.
func (k *known) due(at api.Time) []api.Entry {
	var l []api.Entry
	for _, i := range k.items {
		if tick.Due(i.Deadline, at) {
			l = append(l, i.Entry)
		}
	}
	slices.SortFunc(l, func(a, b api.Entry) int {
		return cmp.Or(cmp.Compare(a.Deadline, b.Deadline), cmp.Compare(a.Birth, b.Birth))
	})
	return l
}

// find returns the index of the entry of a key, or -1.
func (k *known) find(key string) int {
	return slices.IndexFunc(k.items, func(i item) bool { return i.Key == key })
}

// get returns the entry of a key, and whether it is there.
func (k *known) get(key string) (api.Entry, bool) {
	i := k.find(key)
	if i < 0 {
		return api.Entry{}, false
	}
	return k.items[i].Entry, true
}

// remove takes the entry of a key away.
func (k *known) remove(key string) {
	if i := k.find(key); i >= 0 {
		k.cost -= costOf(k.items[i].Entry)
		k.items = slices.Delete(k.items, i, i+1)
	}
}

// use notes that the entry of a key is used.
func (k *known) use(key string) {
	if i := k.find(key); i >= 0 {
		k.uses++
		k.items[i].used = k.uses
	}
}

// set gives a key a value and a deadline.
func (k *known) set(key string, value []byte, deadline api.Time) {
	i := k.find(key)
	if i < 0 {
		k.births++
		i = len(k.items)
		k.items = append(k.items, item{Entry: api.Entry{Key: key, Birth: k.births}})
	} else {
		k.cost -= costOf(k.items[i].Entry)
	}
	k.items[i].Value, k.items[i].Deadline = value, deadline
	k.cost += costOf(k.items[i].Entry)
	k.use(key)
}

// touch gives the entry of a key a deadline.
func (k *known) touch(key string, deadline api.Time) {
	if i := k.find(key); i >= 0 {
		k.items[i].Deadline = deadline
		k.use(key)
	}
}

// isOldest reports whether no other entry was used before that of a key.
func (k *known) isOldest(key string) bool {
	i := k.find(key)
	return !slices.ContainsFunc(k.items, func(x item) bool { return x.used < k.items[i].used })
}

// isWithin reports whether there are at most Count entries that cost at most Bytes.
func (k *known) isWithin() bool { return len(k.items) <= k.config.Count && k.cost <= k.config.Bytes }
