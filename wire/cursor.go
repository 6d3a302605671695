package wire

import "deduce/api"

// numberBits is how many bits a number that is not below 0 has at most.
const numberBits = 63

// cursor goes over bytes and keeps its first error: what is read behind an
// error is nothing, so that a reader asks for the error once, at its end.
type cursor struct {
	data string
	at   int
	err  api.Errno
}

func cursorAt(data string, at int) cursor {
	c := cursor{data: data, at: at}
	if at < 0 || at > len(data) {
		c.fail(api.ErrRange)
	}
	return c
}

func (c *cursor) fail(e api.Errno) {
	if c.err == api.OK {
		c.err = e
	}
}

// next reads a byte; 0, if there is none.
func (c *cursor) next() byte {
	if c.err != api.OK || c.at == len(c.data) {
		c.fail(api.ErrData)
		return 0
	}
	b := c.data[c.at]
	c.at++
	return b
}

// number reads what Varint writes.
func (c *cursor) number() int {
	n := 0
	for shift := 0; shift < numberBits; shift += groupBits {
		b := c.next()
		n |= int(b&groupMask) << shift
		if b < moreBit {
			if b == 0 && shift > 0 {
				// Varint writes as few bytes as can be, so it ends with no group that is 0.
				c.fail(api.ErrData)
			}
			return n
		}
	}
	c.fail(api.ErrData)
	return 0
}
