package replica

import (
	"bytes"
	"iter"
	"maps"
	"slices"

	"cubbyhole/api"
	"cubbyhole/cache"
	"cubbyhole/journal"
	"cubbyhole/record"
)

// Follower gets the records of a leader in any order, and does the same.
type Follower struct {
	site
	applied int    // records
	used    int    // their bytes
	sum     uint32 // after them
	waiting map[int][]byte
}

// NewFollower returns a follower with a new cache, or an error.
func NewFollower(c api.Config) (*Follower, api.Errno) {
	s, e := newSite(c)
	if e != api.OK {
		return nil, e
	}
	return &Follower{site: s, sum: record.Start, waiting: map[int][]byte{}}, api.OK
}

// isZero reports whether a follower is nil or the zero value.
func (f *Follower) isZero() bool { return f == nil || !f.isMade() }

// turns returns an iterator over the bytes of the records whose turn it is, one after the other, which do not wait
// any more.
func (f *Follower) turns() iter.Seq[[]byte] {
	return func(yield func([]byte) bool) {
		for {
			b, ok := f.waiting[f.applied]
			if !ok {
				return
			}
			delete(f.waiting, f.applied)
			if !yield(b) {
				return
			}
		}
	}
}

// apply carries out the operation of a record, or returns an error.
func (f *Follower) apply(b []byte) (api.Result, api.Errno) {
	o, n, ok := record.Next(b, f.sum)
	if !ok || n != len(b) || f.applied >= journal.MaxRecords || f.used+n > journal.MaxBytes {
		return api.Result{}, api.ErrCheck
	}
	r, e := f.do(o)
	if e != api.OK {
		return api.Result{}, e
	}
	f.applied++
	f.used += n
	f.sum = record.Fold(f.sum, b[:n-record.SumSize])
	return r, api.OK
}

// Receive receives the bytes of a record and returns what the operations have done that were carried out, and perhaps an error.
func (f *Follower) Receive(n int, b []byte) ([]api.Result, api.Errno) {
	if f.isZero() {
		return nil, api.ErrNil
	}
	if n < 0 {
		return nil, api.ErrArg
	}
	if n >= f.applied+MaxWait {
		return nil, api.ErrRange
	}
	if _, ok := f.waiting[n]; ok || n < f.applied {
		return nil, api.OK
	}
	f.waiting[n] = bytes.Clone(b)
	var done []api.Result
	for b := range f.turns() {
		r, e := f.apply(b)
		if e != api.OK {
			return done, e
		}
		done = append(done, r)
	}
	return done, api.OK
}

// Len returns the number of applied records.
func (f *Follower) Len() int {
	if f.isZero() {
		return 0
	}
	return f.applied
}

// Waiting returns the indices of the records that wait, in order.
func (f *Follower) Waiting() []int {
	if f.isZero() {
		return nil
	}
	return slices.Sorted(maps.Keys(f.waiting))
}

// Gaps returns the gaps, in order.
func (f *Follower) Gaps() []api.Gap {
	var gaps []api.Gap
	next := f.Len()
	for _, n := range f.Waiting() {
		if n > next {
			gaps = append(gaps, api.Gap{From: next, To: n})
		}
		next = n + 1
	}
	return gaps
}

// Cache returns an independent cache in the same state.
func (f *Follower) Cache() *cache.Cache {
	if f.isZero() {
		return nil
	}
	return f.state()
}

// Copy returns an independent follower in the same state.
func (f *Follower) Copy() *Follower {
	if f.isZero() {
		return nil
	}
	x := &Follower{f.twin(), f.applied, f.used, f.sum, map[int][]byte{}}
	for n, b := range f.waiting {
		x.waiting[n] = bytes.Clone(b)
	}
	return x
}
