package audit

import (
	"bytes"
	"slices"

	"cubbyhole/api"
	"cubbyhole/config"
	"cubbyhole/entry"
	"cubbyhole/event"
	"cubbyhole/tick"
)

// verdict is what a result is judged by: the result, whether its operation is refused, the events that were not judged
// yet, and the entry of its Key, or the one that its cursor comes to, before the operation has its effect.
type verdict struct {
	api.Result
	refused bool
	rest    []api.Event
	there   bool
	entry   api.Entry
}

// eventOf returns the event of a kind of an entry.
func eventOf(k api.EventKind, x api.Entry, at api.Time) api.Event {
	return api.Event{Kind: k, Key: x.Key, Value: x.Value, Birth: x.Birth, Deadline: x.Deadline, At: at}
}

// judge returns what is wrong with a result, and learns from it what is known then.
func (k *known) judge(r api.Result) api.Complaint {
	at := tick.Add(k.now, uint64(r.Op.Ticks))
	if r.Op.Kind < api.OpSet || r.Op.Kind > api.OpClose || r.Err != k.rightError(r.Op, at) {
		return api.ComplaintError
	}
	v := &verdict{Result: r, refused: isRefused(r.Op, r.Err), rest: r.Events}
	if v.refused {
		at = k.now
	}
	if r.At != at {
		return api.ComplaintTime
	}
	if !k.expire(v) {
		return api.ComplaintExpiry
	}
	k.look(v)
	if !k.tell(v) {
		return api.ComplaintEvent
	}
	number := k.effect(v)
	if x := k.evict(v); x != api.ComplaintNone {
		return x
	}
	switch {
	case !k.isWithin() || r.Len != len(k.items) || r.Cost != k.cost:
		return api.ComplaintBudget
	case !v.isRead():
		return api.ComplaintRead
	case r.Cursor != number || r.Op.Kind == api.OpNext && !entry.Equal(r.Entry, v.entry):
		return api.ComplaintCursor
	}
	return api.ComplaintNone
}

// expire judges the events of the entries that are due, and lets them leave.
func (k *known) expire(v *verdict) bool {
	if !v.refused {
		due := k.due(v.At)
		for i, x := range due {
			if i >= len(v.rest) || !event.Equal(v.rest[i], eventOf(api.Expired, x, v.At)) {
				return false
			}
			k.remove(x.Key)
		}
		v.rest = v.rest[len(due):]
		k.now = v.At
	}
	return !slices.ContainsFunc(v.rest, func(x api.Event) bool { return x.Kind == api.Expired })
}

// look finds the entry that an operation is about.
func (k *known) look(v *verdict) {
	switch {
	case v.refused:
	case v.Op.Kind == api.OpNext && v.Err == api.OK:
		v.entry = k.after(k.places[v.Op.Cursor], v.At)
	case v.Op.Kind <= api.OpDelete:
		v.entry, v.there = k.get(v.Op.Key)
	}
}

// tell judges the operation's own events.
func (k *known) tell(v *verdict) bool {
	var own []api.Event
	switch {
	case v.refused:
	case v.there && (v.Op.Kind == api.OpSet || v.Op.Kind == api.OpSetTTL):
		own = append(own, eventOf(api.Replaced, v.entry, v.At))
	case v.there && v.Op.Kind == api.OpDelete:
		own = append(own, eventOf(api.Deleted, v.entry, v.At))
	case v.Op.Kind == api.OpClear:
		for _, i := range k.items {
			own = append(own, eventOf(api.Cleared, i.Entry, v.At))
		}
	}
	if len(v.rest) < len(own) || !slices.EqualFunc(v.rest[:len(own)], own, event.Equal) {
		return false
	}
	v.rest = v.rest[len(own):]
	return true
}

// effect learns the effect of an operation, and returns the number of the cursor that it has opened.
func (k *known) effect(v *verdict) (opened int) {
	if v.refused || v.Err != api.OK {
		return 0
	}
	o := v.Op
	switch o.Kind {
	case api.OpSet:
		k.set(o.Key, o.Value, api.Never)
	case api.OpSetTTL:
		k.set(o.Key, o.Value, tick.Add(v.At, uint64(o.TTL)))
	case api.OpGet:
		k.use(o.Key)
	case api.OpTouch:
		k.touch(o.Key, tick.Add(v.At, uint64(o.TTL)))
	case api.OpDelete:
		k.remove(o.Key)
	case api.OpClear:
		k.items, k.cost = nil, 0
	case api.OpResize:
		k.config, _ = config.Resize(k.config, o.Count, o.Bytes)
	case api.OpOpen:
		opened = k.lowest()
		k.open[opened], k.places[opened] = true, 0
	case api.OpNext:
		k.places[o.Cursor] = v.entry.Birth
	case api.OpSeek:
		k.places[o.Cursor] = o.Birth
	case api.OpClose:
		k.open[o.Cursor] = false
	}
	return opened
}

// evict judges the further events, which must be those of entries that were evicted, and lets these leave.
func (k *known) evict(v *verdict) api.Complaint {
	sets := v.Op.Kind == api.OpSet || v.Op.Kind == api.OpSetTTL
	for _, x := range v.rest {
		y, there := k.get(x.Key)
		if v.refused || !there || !event.Equal(x, eventOf(api.Evicted, y, v.At)) {
			return api.ComplaintEvent
		}
		if k.isWithin() || sets && x.Key == v.Op.Key || k.config.Protected == 0 && !k.isOldest(x.Key) {
			return api.ComplaintVictim
		}
		k.remove(x.Key)
	}
	return api.ComplaintNone
}

// isRead reports whether what a result says of the entry of its key is right.
func (v *verdict) isRead() bool {
	hit := v.there && v.Op.Kind >= api.OpGet
	var value []byte
	var x api.Entry
	switch v.Op.Kind {
	case api.OpGet:
		value = v.entry.Value
	case api.OpPeek:
		x = v.entry
	case api.OpNext:
		x = v.Entry // judged with the cursor
	}
	return v.Hit == hit && bytes.Equal(v.Value, value) && entry.Equal(v.Entry, x)
}
