package check_test

import (
	"testing"

	"deduce/api"
	"deduce/check"
)

// answer is how a text was taken: OK, or an error and its place.
type answer struct {
	errno api.Errno
	at    int
}

// checked answers how Check takes a text; Levels must take it likewise, and with
// an error tell nothing else.
func checked(t *testing.T, text string) answer {
	t.Helper()
	errno, at := check.Check(text)
	levels, levelsErrno, levelsAt := check.Levels(text)
	if levelsErrno != errno || levelsAt != at {
		t.Errorf("%q: Check tells %d %d, Levels %d %d", text, errno, at, levelsErrno, levelsAt)
	}
	if errno != api.OK && levels != nil {
		t.Errorf("%q: error %d, and yet %v", text, errno, levels)
	}
	if errno == api.OK && at != 0 {
		t.Errorf("%q: OK, and yet the place %d", text, at)
	}
	return answer{errno, at}
}

type taken struct {
	text  string
	errno api.Errno
	at    int
}

func hold(t *testing.T, cases []taken) {
	t.Helper()
	for _, c := range cases {
		if got := checked(t, c.text); got != (answer{c.errno, c.at}) {
			t.Errorf("Check(%q): %v, want {%d %d}", c.text, got, c.errno, c.at)
		}
	}
}
