// Package letters tells what a byte may stand for in a name or another word:
// see doc/03-file.md and doc/04-syntax.md.
package letters

// Small tells whether a byte is one of a to z.
func Small(b byte) bool { return b >= 'a' && b <= 'z' }

// Capital tells whether a byte is one of A to Z.
func Capital(b byte) bool { return b >= 'A' && b <= 'Z' }

// Digit tells whether a byte is one of 0 to 9.
func Digit(b byte) bool { return b >= '0' && b <= '9' }

// InWord tells whether a byte may stand in a word, behind its first one.
func InWord(b byte) bool { return Small(b) || Capital(b) || Digit(b) || b == '_' }

// All tells whether each byte of a text is of one kind.
func All(text string, kind func(byte) bool) bool { return Run(text, kind) == len(text) }

// Run tells how many bytes of one kind a text begins with.
func Run(text string, kind func(byte) bool) int {
	n := 0
	for n < len(text) && kind(text[n]) {
		n++
	}
	return n
}
