package syntax_test

import (
	"strings"
	"testing"

	"deduce/api"
	"deduce/syntax"
)

// answer is how a text was taken: OK, or an error and its place.
type answer struct {
	errno api.Errno
	at    int
}

// parsed answers how Parse takes a text; Print must take it likewise, and with
// an error both must tell nothing else.
func parsed(t *testing.T, text string) answer {
	t.Helper()
	rules, errno, at := syntax.Parse(text)
	printed, printErrno, printAt := syntax.Print(text)
	if printErrno != errno || printAt != at {
		t.Errorf("%q: Parse tells %d %d, Print %d %d", text, errno, at, printErrno, printAt)
	}
	if errno != api.OK && (rules != nil || printed != "") {
		t.Errorf("%q: error %d, and yet %v, %q", text, errno, rules, printed)
	}
	return answer{errno, at}
}

// asked answers how Query takes a text.
func asked(t *testing.T, text string) answer {
	t.Helper()
	parts, errno, at := syntax.Query(text)
	if errno != api.OK && parts != nil {
		t.Errorf("%q: error %d, and yet %v", text, errno, parts)
	}
	return answer{errno, at}
}

type taken struct {
	text  string
	errno api.Errno
	at    int
}

func holdParse(t *testing.T, cases []taken) {
	t.Helper()
	for _, c := range cases {
		if got := parsed(t, c.text); got != (answer{c.errno, c.at}) {
			t.Errorf("Parse(%q): %v, want {%d %d}", c.text, got, c.errno, c.at)
		}
	}
}

func holdQuery(t *testing.T, cases []taken) {
	t.Helper()
	for _, c := range cases {
		if got := asked(t, c.text); got != (answer{c.errno, c.at}) {
			t.Errorf("Query(%q): %v, want {%d %d}", c.text, got, c.errno, c.at)
		}
	}
}

// times writes a text n times, with another one between.
func times(n int, text, between string) string {
	return strings.TrimSuffix(strings.Repeat(text+between, n), between)
}

// programs has texts that Parse takes, of each kind of rule.
func programs() []string {
	return []string{
		"",
		"p.",
		"p(a).",
		"r(X,Y):-edge(X,Y). r(X,Z):-r(X,Y),edge(Y,Z).",
		"q :- not p, a(\"x\\\"y\\\\z\\n\", 12, X_1) % remark: \"\n , X = a, b != \"\" , 7<Y, \"s\" <Z.",
		"\t%\n p ( a , \"b c\" )\n:-\nnot\tq ( A ) , not r .%",
		"p:-a<b,a(X),a=a,not a. not1(notX) :- nota.",
		"p(" + times(8, "a", ",") + "):-" + times(11, "\"b\"=c", ",") + ",not d(" + times(8, "\"\"", ",") + ").",
	}
}

// queries has texts that Query takes.
func queries() []string {
	return []string{
		"p.",
		"p(X,a), X != a.",
		" not p(X) , % remark\n \"a\\n\" < Y,7=X . % end",
		"a=b,a<\"\",a(b),a.",
	}
}
