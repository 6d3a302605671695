// Package stream puts numbers and texts behind one another as bytes, and reads
// them again.
package stream

import (
	"deduce/api"
	"deduce/wire"
)

// Cursor goes over bytes and keeps its first error: what is read behind an
// error is nothing, so that a reader asks for the error once, at its end.
type Cursor struct {
	data string
	at   int
	err  api.Errno
}

// At starts a cursor behind the first bytes of data.
func At(data string, at int) Cursor {
	c := Cursor{data: data, at: at}
	if at < 0 || at > len(data) {
		c.Fail(api.ErrRange)
	}
	return c
}

// Fail stops the cursor, if nothing has done so ahead.
func (c *Cursor) Fail(e api.Errno) {
	if c.err == api.OK {
		c.err = e
	}
}

// Err tells what stopped the cursor.
func (c *Cursor) Err() api.Errno { return c.err }

// Place tells how many bytes are behind the cursor.
func (c *Cursor) Place() int { return c.at }

// Number reads what wire.Varint writes.
func (c *Cursor) Number() int {
	if c.err != api.OK {
		return 0
	}
	n, next, errno := wire.Unvarint(c.data, c.at)
	if errno != api.OK {
		c.Fail(errno)
		return 0
	}
	c.at = next
	return n
}

// Take reads so many bytes.
func (c *Cursor) Take(many int) string {
	if c.err != api.OK {
		return ""
	}
	// Nothing is added to many: it may be the greatest number that there is.
	if many < 0 || many > len(c.data)-c.at {
		c.Fail(api.ErrData)
		return ""
	}
	start := c.at
	c.at += many
	return c.data[start:c.at]
}

// Counted reads a text that stands behind the number of its bytes.
func (c *Cursor) Counted() string { return c.Take(c.Number()) }

// End fails, if bytes are left.
func (c *Cursor) End() {
	if c.at != len(c.data) {
		c.Fail(api.ErrData)
	}
}
