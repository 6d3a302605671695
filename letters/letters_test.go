package letters_test

import (
	"strings"
	"testing"

	"deduce/letters"
)

func TestKinds(t *testing.T) {
	const small, capital, digit = "abcdefghijklmnopqrstuvwxyz", "ABCDEFGHIJKLMNOPQRSTUVWXYZ", "0123456789"
	for _, kind := range []struct {
		name string
		is   func(byte) bool
		all  string
	}{
		{"Small", letters.Small, small},
		{"Capital", letters.Capital, capital},
		{"Digit", letters.Digit, digit},
		{"InWord", letters.InWord, small + capital + digit + "_"},
	} {
		for b := range 256 {
			if got, want := kind.is(byte(b)), strings.IndexByte(kind.all, byte(b)) >= 0; got != want {
				t.Errorf("%s(%q) = %v", kind.name, byte(b), got)
			}
		}
	}
}

func TestRun(t *testing.T) {
	for _, c := range []struct {
		text string
		want int
	}{
		{"", 0}, {"a", 0}, {"1", 1}, {"12", 2}, {"12a3", 2}, {"\xff1", 0},
	} {
		if got := letters.Run(c.text, letters.Digit); got != c.want {
			t.Errorf("Run(%q) = %d, want %d", c.text, got, c.want)
		}
		if got := letters.All(c.text, letters.Digit); got != (c.want == len(c.text)) {
			t.Errorf("All(%q) = %v", c.text, got)
		}
	}
}
