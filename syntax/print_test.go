package syntax_test

import (
	"reflect"
	"strings"
	"testing"

	"deduce/api"
	"deduce/file"
	"deduce/syntax"
)

func TestConstant(t *testing.T) {
	a30, d30 := strings.Repeat("a", 30), strings.Repeat("7", 30)
	for _, c := range []struct{ s, want string }{
		{"a", "a"},
		{"a_Z9", "a_Z9"},
		{"nots", "nots"},
		{a30, a30},
		{a30 + "a", `"` + a30 + `a"`},
		{"0", "0"},
		{"007", "007"},
		{d30, d30},
		{d30 + "7", `"` + d30 + `7"`},
		{"", `""`},
		{"not", `"not"`},
		{"X", `"X"`},
		{"Abc", `"Abc"`},
		{"_a", `"_a"`},
		{"7a", `"7a"`},
		{"-7", `"-7"`},
		{" ", `" "`},
		{"a b", `"a b"`},
		{"a%b", `"a%b"`},
		{`"`, `"\""`},
		{`\`, `"\\"`},
		{`\n`, `"\\n"`},
		{"\n", `"\n"`},
		{"a\n\n\"\\b", `"a\n\n\"\\b"`},
		{"\t\r\x00", "\"\t\r\x00\""},
		{"é", `"é"`},
		{"\x80", "\"\x80\""},
		{"a\xff\"\xfe", "\"a\xff\\\"\xfe\""},
		{"٣", `"٣"`},
		{strings.Repeat("b ", 500), `"` + strings.Repeat("b ", 500) + `"`},
	} {
		if got := syntax.Constant(c.s); got != c.want {
			t.Errorf("Constant(%q) = %s, want %s", c.s, got, c.want)
		}
	}
}

// TestConstantIsRead: what Constant writes is read as that constant, and without
// quotes where they need not be.
func TestConstantIsRead(t *testing.T) {
	texts := []string{"", "not", strings.Repeat("\n", 200)}
	for a := range 256 {
		texts = append(texts, string([]byte{byte(a)}))
		for b := range 256 {
			texts = append(texts, string([]byte{byte(a), byte(b)}))
		}
	}
	for _, text := range texts {
		written := syntax.Constant(text)
		rules := rulesOf(t, "p("+written+").")
		if got := rules[0].Head.Args; !reflect.DeepEqual(got, []api.Term{constant(text, 2)}) {
			t.Errorf("Constant(%q) = %s: read as %v", text, written, got)
		}
		plain := file.Name(text) || text != "" && strings.Trim(text, "0123456789") == ""
		if plain != (written[0] != '"') {
			t.Errorf("Constant(%q) = %s", text, written)
		}
	}
}

func TestPrint(t *testing.T) {
	for _, c := range []struct{ text, want string }{
		{"", ""},
		{" % remark", ""},
		{"p.", "p.\n"},
		{"p . q.r\n.", "p.\nq.\nr.\n"},
		{"p(a).", "p(a).\n"},
		{"p ( X,Y ,z ) .", "p(X, Y, z).\n"},
		{"p(\"a\",\"A\",\"1\",\"1a\",\"\",\"not\",01).", "p(a, \"A\", 1, \"1a\", \"\", \"not\", 01).\n"},
		{`p("\"\\\n%").`, "p(\"\\\"\\\\\\n%\").\n"},
		{"p:-q.", "p :- q.\n"},
		{"p:-q,r(X)% and\n,s.", "p :- q, r(X), s.\n"},
		{"p:-not q,not\n\nr(a,B).", "p :- not q, not r(a, B).\n"},
		{"p(X):-X=a,X!=b,X<c,a<\"b c\",1=1.", "p(X) :- X = a, X != b, X < c, a < \"b c\", 1 = 1.\n"},
		{"r(X,Y):-edge(X,Y). r(X,Z):-r(X,Y),edge(Y,Z).", "r(X, Y) :- edge(X, Y).\nr(X, Z) :- r(X, Y), edge(Y, Z).\n"},
		{"p(\"X\") :- q(X).", "p(\"X\") :- q(X).\n"},
		{"p(\"\xff\x00\").", "p(\"\xff\x00\").\n"},
		{strings.Repeat("p.", 200), strings.Repeat("p.\n", 200)},
	} {
		got, errno, at := syntax.Print(c.text)
		if got != c.want || errno != api.OK || at != 0 {
			t.Errorf("Print(%q) = %q %d %d, want %q", c.text, got, errno, at, c.want)
		}
	}
}

func TestPrintRefuses(t *testing.T) {
	for _, c := range []taken{
		{"p", api.ErrText, 1},
		{"p(a) :- not X.", api.ErrText, 12},
		{"p. q(\"" + strings.Repeat("a", 201) + "\").", api.ErrLong, 5},
		{"p(" + times(9, "a", ",") + ").", api.ErrMany, 18},
		{"p:-" + times(13, "a", ",") + ".", api.ErrMany, 27},
		{strings.Repeat("p.", 201), api.ErrMany, 400},
		{strings.Repeat(" ", 20001), api.ErrLong, 0},
	} {
		got, errno, at := syntax.Print(c.text)
		if got != "" || errno != c.errno || at != c.at {
			t.Errorf("Print(%q) = %q %d %d, want %d %d", c.text, got, errno, at, c.errno, c.at)
		}
	}
}

// TestPrintAgain: Print's answer has the same rules, and is its own form.
func TestPrintAgain(t *testing.T) {
	for _, text := range programs() {
		once, _, _ := syntax.Print(text)
		again, errno, at := syntax.Print(once)
		if again != once || errno != api.OK || at != 0 {
			t.Errorf("Print(%q) = %q %d %d", once, again, errno, at)
		}
		if got, want := withoutPlaces(rulesOf(t, once)), withoutPlaces(rulesOf(t, text)); !reflect.DeepEqual(got, want) {
			t.Errorf("%q has the rules %v, and printed %v", text, want, got)
		}
	}
}

func withoutPlaces(rules []api.Rule) []api.Rule {
	for i := range rules {
		forgetPlace(&rules[i].Head)
		for j := range rules[i].Body {
			part := &rules[i].Body[j]
			forgetPlace(&part.Atom)
			part.Left.At, part.Right.At = 0, 0
		}
	}
	return rules
}

func forgetPlace(a *api.Atom) {
	a.At = 0
	for i := range a.Args {
		a.Args[i].At = 0
	}
}
