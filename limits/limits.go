// Package limits has the bounds that several packages keep to: see DOC.md,
// 'Limits'.
package limits

const (
	MaxWord  = 200   // bytes of a text in a row
	MaxArity = 8     // texts in a row
	MaxRows  = 2000  // rows of a relation in a file
	MaxBytes = 65536 // bytes of a file
)
