package snap

import (
	"bytes"

	"cubbyhole/api"
)

const (
	groupBits = 7
	more      = 1 << groupBits // another group follows
	wordBits  = 64
	maxInt    = 1<<63 - 1
)

// coder either writes the parts of a body, or reads them. What cannot be read is a panic with an error.
type coder struct {
	reading bool
	body    []byte // what is written, or is not read yet
}

// next reads a byte.
func (c *coder) next() byte {
	if len(c.body) == 0 {
		panic(api.ErrFormat)
	}
	b := c.body[0]
	c.body = c.body[1:]
	return b
}

// word writes or reads a number.
func (c *coder) word(x *uint64) {
	if c.reading {
		*x = c.readWord()
		return
	}
	for n := *x; ; n >>= groupBits {
		if n < more {
			c.body = append(c.body, byte(n))
			return
		}
		c.body = append(c.body, byte(n)|more)
	}
}

// readWord reads a number: each number is written in just one way.
func (c *coder) readWord() uint64 {
	var n uint64
	for shift := 0; ; shift += groupBits {
		b := c.next()
		group := uint64(b &^ more)
		if shift >= wordBits || group<<shift>>shift != group || shift > 0 && b == 0 {
			panic(api.ErrFormat)
		}
		n |= group << shift
		if b < more {
			return n
		}
	}
}

// int writes or reads a number that is not negative.
func (c *coder) int(x *int) {
	n := uint64(*x)
	c.word(&n)
	if n > maxInt {
		panic(api.ErrFormat)
	}
	*x = int(n)
}

// time writes or reads a time.
func (c *coder) time(x *api.Time) {
	n := uint64(*x)
	c.word(&n)
	*x = api.Time(n)
}

// truth writes or reads a truth.
func (c *coder) truth(x *bool) {
	n := uint64(0)
	if *x {
		n = 1
	}
	c.word(&n)
	if n > 1 {
		panic(api.ErrFormat)
	}
	*x = n == 1
}

// bytes writes or reads bytes.
func (c *coder) bytes(x *[]byte) {
	n := len(*x)
	c.int(&n)
	if !c.reading {
		c.body = append(c.body, *x...)
		return
	}
	if n > len(c.body) {
		panic(api.ErrFormat)
	}
	*x = bytes.Clone(c.body[:n])
	c.body = c.body[n:]
}

// string writes or reads a string.
func (c *coder) string(x *string) {
	b := []byte(*x)
	c.bytes(&b)
	*x = string(b)
}

// list writes or reads a list, each element by a function.
func list[T any](c *coder, x *[]T, each func(*T)) {
	n := len(*x)
	c.int(&n)
	if !c.reading {
		// Each one is handed on as a copy: what is written is not to be touched.
		for _, v := range *x {
			each(&v)
		}
		return
	}
	var l []T
	for range n {
		// Each element has a byte at least: one too many is a panic before the list gets long.
		var v T
		each(&v)
		l = append(l, v)
	}
	*x = l
}

// state writes or reads a state.
func (c *coder) state(s *api.CacheState) {
	c.int(&s.Config.Count)
	c.int(&s.Config.Bytes)
	c.int(&s.Config.Protected)
	c.word(&s.Config.Seed)
	c.truth(&s.Config.Same)
	c.time(&s.Now)
	c.word(&s.Births)
	list(c, &s.Entries, c.entry)
	list(c, &s.Probation, c.word)
	list(c, &s.Protected, c.word)
	list(c, &s.Events, c.event)
}

// entry writes or reads an entry.
func (c *coder) entry(x *api.Entry) {
	c.string(&x.Key)
	c.bytes(&x.Value)
	c.time(&x.Deadline)
	c.word(&x.Birth)
}

// event writes or reads an event.
func (c *coder) event(v *api.Event) {
	kind := int(v.Kind)
	c.int(&kind)
	v.Kind = api.EventKind(kind)
	c.string(&v.Key)
	c.bytes(&v.Value)
	c.word(&v.Birth)
	c.time(&v.Deadline)
	c.time(&v.At)
}
