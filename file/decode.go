package file

import (
	"strings"

	"deduce/api"
	"deduce/limits"
	"deduce/stream"
	"deduce/wire"
	"deduce/words"
)

const (
	sumBytes   = 4
	firstPages = 2 // ahead of those of the columns
)

// Decode reads one (C3).
func Decode(data string) (api.Relation, api.Errno, int) {
	if len(data) > limits.MaxBytes {
		return api.Relation{}, api.ErrLong, 0
	}
	if !sealed(data) {
		return api.Relation{}, api.ErrData, 0
	}
	pages, errno, at := split(data)
	if errno != api.OK {
		return api.Relation{}, errno, at
	}
	r, errno := unpack(pages)
	if errno != api.OK {
		return api.Relation{}, api.ErrData, 0
	}
	// unpack takes more than Encode writes: rows that don't rise, a text that
	// no row has, bytes behind a page's last number or behind the last page.
	if again, errno, _ := Encode(r); errno != api.OK || again != data {
		return api.Relation{}, api.ErrData, 0
	}
	return r, api.OK, 0
}

// sealed tells whether a text begins and ends as a file does.
func sealed(data string) bool {
	end := len(data) - sumBytes
	return end >= len(magic) && strings.HasPrefix(data, magic) && data[end:] == wire.Sum(data[:end])
}

// pageCursor goes over pages and keeps the place of the first one that is none.
type pageCursor struct {
	stream.Cursor
	start int // of the page that was read last
}

// page reads what stands in a page.
func (p *pageCursor) page() string {
	if p.Err() != api.OK {
		return ""
	}
	p.start = p.Place()
	body := p.Counted()
	// Where the page breaks off there is an error already, and that one is kept.
	if p.Take(sumBytes) != wire.Sum(body) {
		p.Fail(api.ErrSum)
	}
	return body
}

// split answers what stands in the pages that are wanted; or the first error,
// and the place of its page.
func split(data string) ([]string, api.Errno, int) {
	p := pageCursor{Cursor: stream.At(data[:len(data)-sumBytes], len(magic))}
	pages := []string{p.page()}
	first, _ := readHead(pages[0])
	for len(pages) < firstPages+first.arity {
		pages = append(pages, p.page())
	}
	if p.Err() != api.OK {
		return nil, p.Err(), p.start
	}
	return pages, api.OK, 0
}

// readHead reads a first page; one that is none tells nothing.
func readHead(page string) (head, api.Errno) {
	var h head
	c := stream.At(page, 0)
	h.name = c.Counted()
	h.arity = c.Number()
	h.rows = c.Number()
	c.End()
	if !Name(h.name) || h.arity > limits.MaxArity || h.rows > limits.MaxRows {
		c.Fail(api.ErrData)
	}
	if c.Err() != api.OK {
		return head{}, c.Err()
	}
	return h, api.OK
}

// unpack reads a relation, whether or not Encode would have written it so.
func unpack(pages []string) (api.Relation, api.Errno) {
	h, errno := readHead(pages[0])
	if errno != api.OK {
		return api.Relation{}, errno
	}
	list, errno := words.Open(pages[1])
	if errno != api.OK {
		return api.Relation{}, errno
	}
	rows := make([][]string, h.rows)
	for _, page := range pages[firstPages:] {
		if errno := readColumn(rows, page, list); errno != api.OK {
			return api.Relation{}, errno
		}
	}
	return api.Relation{Name: h.name, Arity: h.arity, Rows: rows}, api.OK
}

// readColumn puts a column's texts behind those that the rows have.
func readColumn(rows [][]string, page string, list []string) api.Errno {
	c := stream.At(page, 0)
	n := 0
	for i := range rows {
		n += wire.Unfold(c.Number())
		if n < 0 || n >= len(list) {
			c.Fail(api.ErrData)
			break
		}
		rows[i] = append(rows[i], list[n])
	}
	return c.Err()
}
