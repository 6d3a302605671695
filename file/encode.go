package file

import (
	"slices"

	"deduce/api"
	"deduce/limits"
	"deduce/stream"
	"deduce/wire"
	"deduce/words"
)

const magic = "REL1"

// Encode packs a relation (C2).
func Encode(r api.Relation) (string, api.Errno, int) {
	tidy, errno, at := Tidy(r)
	if errno != api.OK {
		return "", errno, at
	}
	data := pack(tidy)
	if len(data) > limits.MaxBytes {
		return "", api.ErrLong, 0
	}
	return data, api.OK, 0
}

// book is a text that is written page by page.
type book struct{ stream.Writer }

// page puts a page behind the ones that are there.
func (b *book) page(body string) {
	b.Counted(body)
	b.Text(wire.Sum(body))
}

// pack writes a tidy relation.
func pack(r api.Relation) string {
	list := texts(r.Rows)
	second, _, _ := words.Build(list)
	number := numbers(list)
	var b book
	b.Text(magic)
	b.page(head{name: r.Name, arity: r.Arity, rows: len(r.Rows)}.text())
	b.page(second)
	for column := range r.Arity {
		b.page(columnText(r.Rows, column, number))
	}
	b.Text(wire.Sum(b.Written()))
	return b.Written()
}

// head is what the first page tells.
type head struct {
	name        string
	arity, rows int
}

func (h head) text() string {
	var w stream.Writer
	w.Counted(h.name)
	w.Number(h.arity)
	w.Number(h.rows)
	return w.Written()
}

// texts tells all texts in rows, each once, rising.
func texts(rows [][]string) []string {
	list := slices.Concat(rows...)
	slices.Sort(list)
	return slices.Compact(list)
}

// numbers tells of each text its number.
func numbers(list []string) map[string]int {
	number := map[string]int{}
	for i, text := range list {
		number[text] = i
	}
	return number
}

// columnText writes how the numbers of a column's texts go up and down.
func columnText(rows [][]string, column int, number map[string]int) string {
	var w stream.Writer
	ahead := 0
	for _, row := range rows {
		n := number[row[column]]
		w.Number(wire.Fold(n - ahead))
		ahead = n
	}
	return w.Written()
}
