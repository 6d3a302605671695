// Package limits has the bounds that several packages keep to: see DOC.md,
// 'Limits', for MaxName doc/03-file.md and doc/04-syntax.md, and for MaxFacts
// doc/07-eval.md.
package limits

const (
	MaxName  = 30     // bytes of a name, a variable or digits
	MaxWord  = 200    // bytes of a text in a row
	MaxArity = 8      // texts in a row
	MaxRows  = 2000   // rows of a relation in a file
	MaxBytes = 65536  // bytes of a file
	MaxText  = 20000  // bytes of a program
	MaxRules = 200    // rules of a program
	MaxParts = 12     // parts of a rule or a query
	MaxFacts = 100000 // facts that may be asked for
)
