package script

import (
	"bytes"
	"slices"

	"cubbyhole/api"
	"cubbyhole/cache"
	"cubbyhole/cursor"
	"cubbyhole/event"
	"cubbyhole/tick"
)

// Same reports whether two results are equal.
func Same(a, b api.Result) bool {
	return Equal(a.Op, b.Op) && a.At == b.At && a.Err == b.Err && a.Hit == b.Hit && bytes.Equal(a.Value, b.Value) && sameEntry(a.Entry, b.Entry) &&
		a.Cursor == b.Cursor && slices.EqualFunc(a.Events, b.Events, event.Equal) && a.Len == b.Len && a.Cost == b.Cost
}

// sameEntry reports whether two entries are equal.
func sameEntry(a, b api.Entry) bool {
	return a.Key == b.Key && bytes.Equal(a.Value, b.Value) && a.Deadline == b.Deadline && a.Birth == b.Birth
}

// Do carries out an operation on a cache with cursors and returns what it has done, or an error.
func Do(s *cursor.Cursors, o api.Op) (r api.Result, e api.Errno) {
	c := s.Cache()
	if c == nil {
		return api.Result{}, api.ErrNil
	}
	if !isKind(o.Kind) {
		return api.Result{}, api.ErrArg
	}
	r.Op = o
	r.Op.Value = bytes.Clone(o.Value)
	defer func() {
		r.At, r.Events, r.Len, r.Cost = c.Now(), c.Drain(), c.Len(), c.Cost()
	}()
	t := tick.Add(c.Now(), uint64(o.Ticks))
	if o.Kind < api.OpOpen {
		onCache(c, o, t, &r)
	} else {
		onCursors(s, o, t, &r)
	}
	return r, api.OK
}

// onCache carries out an operation of a cache at a time.
func onCache(c *cache.Cache, o api.Op, t api.Time, r *api.Result) {
	switch o.Kind {
	case api.OpSet:
		r.Err = c.Set(t, o.Key, o.Value)
	case api.OpSetTTL:
		r.Err = c.SetTTL(t, o.Key, o.Value, o.TTL)
	case api.OpGet:
		r.Value, r.Hit, r.Err = c.Get(t, o.Key)
	case api.OpPeek:
		r.Entry, r.Hit, r.Err = c.Peek(t, o.Key)
	case api.OpTouch:
		r.Hit, r.Err = c.Touch(t, o.Key, o.TTL)
	case api.OpDelete:
		r.Hit, r.Err = c.Delete(t, o.Key)
	case api.OpClear:
		_, r.Err = c.Clear(t)
	case api.OpResize:
		r.Err = c.Resize(t, o.Count, o.Bytes)
	case api.OpCompact:
		r.Err = c.Compact(t)
	case api.OpAdvance:
		r.Err = c.Advance(t)
	}
}

// onCursors carries out an operation of cursors at a time.
func onCursors(s *cursor.Cursors, o api.Op, t api.Time, r *api.Result) {
	if o.Kind == api.OpNext {
		r.Entry, r.Err = s.Next(t, o.Cursor)
		return
	}
	if r.Err = s.Cache().Advance(t); r.Err != api.OK {
		return
	}
	switch o.Kind {
	case api.OpOpen:
		r.Cursor, r.Err = s.Open()
	case api.OpSeek:
		r.Err = s.Seek(o.Cursor, o.Birth)
	case api.OpClose:
		r.Err = s.Close(o.Cursor)
	}
}

// On carries out operations on a cache with cursors and returns what they have done, or an error.
func On(s *cursor.Cursors, l []api.Op) ([]api.Result, api.Errno) {
	if s.Cache() == nil {
		return nil, api.ErrNil
	}
	for _, o := range l {
		if !isKind(o.Kind) {
			return nil, api.ErrArg
		}
	}
	if len(l) > MaxOps {
		return nil, api.ErrFull
	}
	trace := make([]api.Result, 0, len(l))
	for _, o := range l {
		r, e := Do(s, o)
		if e != api.OK {
			return nil, e
		}
		trace = append(trace, r)
	}
	return trace, api.OK
}

// Run carries out the operations of some bytes on a new cache and returns what they have done, or an error.
func Run(c api.Config, b []byte) ([]api.Result, api.Errno) {
	l, e := Parse(b)
	if e != api.OK {
		return nil, e
	}
	x, e := cache.New(c)
	if e != api.OK {
		return nil, e
	}
	s, e := cursor.New(x)
	if e != api.OK {
		return nil, e
	}
	return On(s, l)
}

// Differ returns the index of the first result in which two traces differ, or -1.
func Differ(a, b []api.Result) int {
	for i := range min(len(a), len(b)) {
		if !Same(a[i], b[i]) {
			return i
		}
	}
	if len(a) == len(b) {
		return -1
	}
	return min(len(a), len(b))
}
