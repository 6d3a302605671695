package stream

import "deduce/wire"

// Writer puts what it is given behind what it has.
type Writer struct{ bytes []byte }

// Number writes a number (nothing of one below 0, as there are no bytes for it).
func (w *Writer) Number(n int) {
	text, _ := wire.Varint(n)
	w.Text(text)
}

// Text writes a text's bytes.
func (w *Writer) Text(s string) { w.bytes = append(w.bytes, s...) }

// Counted writes how many bytes a text has, and these.
func (w *Writer) Counted(s string) {
	w.Number(len(s))
	w.Text(s)
}

// Written tells what has been written.
func (w *Writer) Written() string { return string(w.bytes) }
