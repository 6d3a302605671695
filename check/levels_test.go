package check_test

import (
	"reflect"
	"strings"
	"testing"

	"deduce/api"
	"deduce/check"
)

// told writes levels in one line.
func told(levels []api.Level) string {
	var b strings.Builder
	for _, l := range levels {
		b.WriteString(" " + l.Name + strings.Repeat("+", l.Number))
	}
	return strings.TrimPrefix(b.String(), " ")
}

// Each level is written as a name and a + for each of its number.
func TestLevels(t *testing.T) {
	for _, c := range []struct{ text, want string }{
		{"", ""},
		{"% p.", ""},
		{"p.", "p"},
		{"p(a). p(b).", "p"},
		{"r(X,Y):-edge(X,Y). r(X,Z):-r(X,Y),edge(Y,Z).", "edge r"},
		// Names in bodies alone, behind 'not' too.
		{"p :- q, r.", "p q r"},
		{"p :- not q, not r.", "p+ q r"},
		{"p :- q, not r, a = b, c < d.", "p+ q r"},
		// Names by the bytes, rising.
		{"b. a. c.", "a b c"},
		{"p_. p1. pZ. pa. p. p10. p9. pp.", "p p1 p10 p9 pZ p_ pa pp"},
		{"z :- y, not x. a.", "a x y z+"},
		// Levels 0, 1 and more.
		{"p :- not q. q :- not r. r :- s.", "p++ q+ r s"},
		{"a :- not b. b :- not c. c :- not d. d :- not e. e :- not f.", "a+++++ b++++ c+++ d++ e+ f"},
		{"e :- not f. d :- not e. c :- not d. b :- not c. a :- not b.", "a+++++ b++++ c+++ d++ e+ f"},
		// A ring without 'not', alone and above another one.
		{"p :- q. q :- r. r :- p.", "p q r"},
		{"p :- q. q :- r. r :- p, not s. t :- r.", "p+ q+ r+ s t+"},
		{"p :- q. q :- p, not r. r :- s. s :- r, not t. t :- t.", "p++ q++ r+ s+ t"},
		// 'not' at every other rule of a chain.
		{"a :- not b. b :- c. c :- not d. d :- e. e :- not f. f :- g.", "a+++ b++ c++ d+ e+ f g"},
		{"a :- b. b :- not c. c :- d. d :- not e. e :- f. f :- not g.", "a+++ b+++ c++ d++ e+ f+ g"},
		// Of several ways the one with the most of 'not' counts.
		{"a :- b. a :- not c. c :- b.", "a+ b c"},
		{"a :- not b. a :- not c. c :- not b.", "a++ b c+"},
		{"a :- not c, b. b :- not d. c :- e. d :- not e.", "a++ b++ c d+ e"},
		{"a :- b, not b.", "a+ b"},
		{"a :- not b, b. c :- a, a, not d.", "a+ b c+ d"},
		{"a :- b. b :- not c. a :- d.", "a+ b+ c d"},
		{"a :- d. b :- not c. a :- b.", "a+ b+ c d"},
		{"a :- not b. a :- b. a.", "a+ b"},
		{"a :- not b. c :- d.", "a+ b c d"},
		{"a(X) :- b(X), not a1(X). a1(X) :- b(X), not a2(X). a2(c) :- b(c).", "a++ a1+ a2 b"},
	} {
		levels, errno, at := check.Levels(c.text)
		if got := told(levels); got != c.want || errno != api.OK || at != 0 {
			t.Errorf("Levels(%q): %q %d %d, want %q", c.text, got, errno, at, c.want)
		}
	}
}

// A chain of as many rules as there may be, in both orders.
func TestDeepest(t *testing.T) {
	var down, up string
	var want []api.Level
	for i := range 200 {
		rule := name(i+1) + ":-not " + name(i) + ".\n"
		down, up = rule+down, up+rule
	}
	for i := range 201 {
		want = append(want, api.Level{Name: name(i), Number: i})
	}
	for _, text := range []string{down, up} {
		levels, errno, at := check.Levels(text)
		if errno != api.OK || at != 0 || !reflect.DeepEqual(levels, want) {
			t.Errorf("%d %d: %v", errno, at, levels)
		}
	}
}

// An answer is new memory: what is done to it is not seen in the next one.
func TestLevelsAreNew(t *testing.T) {
	text := "p :- not q."
	levels, _, _ := check.Levels(text)
	levels[0] = api.Level{Name: "x", Number: 7}
	again, _, _ := check.Levels(text)
	if told(again) != "p+ q" {
		t.Error(again)
	}
}

func TestLevelsErrors(t *testing.T) {
	for _, c := range []taken{
		{"p(", api.ErrText, 2},
		{"p(a). p.", api.ErrArity, 6},
		{"p(X).", api.ErrSafe, 2},
		{"q(X) :- n(X), not q(X).", api.ErrStrata, 18},
		{strings.Repeat("p. ", 201), api.ErrMany, 600},
	} {
		levels, errno, at := check.Levels(c.text)
		if levels != nil || errno != c.errno || at != c.at {
			t.Errorf("Levels(%q): %v %d %d, want %d %d", c.text, levels, errno, at, c.errno, c.at)
		}
	}
}
