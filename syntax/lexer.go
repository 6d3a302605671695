package syntax

import (
	"strings"

	"deduce/letters"
	"deduce/limits"
)

// lexer stands at the next sign of a text: it has gone over the blanks and
// remarks ahead of it. It looks at no more than it is asked for, as a STRING
// that may not stand there is refused at its first byte, whatever follows.
type lexer struct {
	text string
	at   int
}

func newLexer(text string) lexer {
	l := lexer{text: text}
	l.move(0)
	return l
}

// move goes over the next n bytes, and the blanks and remarks behind them.
func (l *lexer) move(n int) {
	l.at += n
	for !l.ended() {
		switch l.text[l.at] {
		case ' ', '\t', '\n':
			l.at++
		case '%':
			l.at += letters.Run(l.text[l.at:], inLine)
		default:
			return
		}
	}
}

func inLine(b byte) bool { return b != '\n' }

func (l *lexer) ended() bool { return l.at == len(l.text) }

// left tells whether there is another sign.
func (l *lexer) left() bool { return !l.ended() }

// begins tells whether a sign is the next one.
func (l *lexer) begins(sign string) bool { return strings.HasPrefix(l.text[l.at:], sign) }

// take goes over a sign, if it is the next one.
func (l *lexer) take(sign string) bool {
	if !l.begins(sign) {
		return false
	}
	l.move(len(sign))
	return true
}

// want goes over a sign that must be the next one.
func (l *lexer) want(sign string) error {
	if !l.take(sign) {
		return l.fail(errText)
	}
	return nil
}

// word answers the word that is next, or an empty text. (One that begins with
// '_' is none; but as it is no name either, its place is told all the same.)
func (l *lexer) word() string {
	rest := l.text[l.at:]
	return rest[:letters.Run(rest, letters.InWord)]
}

// quoted reads a STRING, whose first byte is next: what it stands for.
func (l *lexer) quoted() (string, error) {
	start := l.at
	var told []byte
	for l.at++; l.left() && !l.begins(`"`); l.at++ {
		b, err := l.quotedByte()
		if err != nil {
			return "", err
		}
		told = append(told, b)
	}
	if err := l.want(`"`); err != nil {
		return "", err
	}
	if len(told) > limits.MaxWord {
		return "", placed{errLong, start}
	}
	return string(told), nil
}

// quotedByte answers what the next byte of a STRING stands for, or that one
// and the byte behind it, and stands at the last of them then.
func (l *lexer) quotedByte() (byte, error) {
	if l.begins("\n") {
		return 0, l.fail(errText)
	}
	if !l.begins(`\`) {
		return l.text[l.at], nil
	}
	l.at++
	switch {
	case l.begins(`"`), l.begins(`\`):
		return l.text[l.at], nil
	case l.begins("n"):
		return '\n', nil
	}
	return 0, l.fail(errText)
}

// fail answers an error that was met at the next sign.
func (l *lexer) fail(err error) error { return placed{err, l.at} }
