package syntax_test

import (
	"reflect"
	"testing"

	"deduce/api"
	"deduce/syntax"
)

func variable(text string, at int) api.Term { return api.Term{Var: true, Text: text, At: at} }

func constant(text string, at int) api.Term { return api.Term{Text: text, At: at} }

func atom(at int, name string, args ...api.Term) api.Atom {
	return api.Atom{Name: name, Args: args, At: at}
}

func atomPart(kind int, a api.Atom) api.Part { return api.Part{Kind: kind, Atom: a} }

func comparison(kind int, left, right api.Term) api.Part {
	return api.Part{Kind: kind, Left: left, Right: right}
}

// rulesOf answers a program's rules; a list without anything in it is nil then.
func rulesOf(t *testing.T, text string) []api.Rule {
	t.Helper()
	rules, errno, at := syntax.Parse(text)
	if errno != api.OK || at != 0 {
		t.Fatalf("Parse(%q): %d %d", text, errno, at)
	}
	for i := range rules {
		emptyIsNil(&rules[i].Head.Args)
		emptyIsNil(&rules[i].Body)
		for j := range rules[i].Body {
			emptyIsNil(&rules[i].Body[j].Atom.Args)
		}
	}
	return rules
}

func emptyIsNil[T any](list *[]T) {
	if len(*list) == 0 {
		*list = nil
	}
}

func TestRules(t *testing.T) {
	for _, c := range []struct {
		text string
		want []api.Rule
	}{
		{"p.", []api.Rule{{Head: atom(0, "p")}}},
		{" p\n.q.", []api.Rule{{Head: atom(1, "p")}, {Head: atom(4, "q")}}},
		{`p ( X,b , 07,"Y \"\\\n" ).`, []api.Rule{{
			Head: atom(0, "p", variable("X", 4), constant("b", 6), constant("07", 10), constant("Y \"\\\n", 13)),
		}}},
		{"r(X,Z):-r(X,Y),edge(Y,Z).", []api.Rule{{
			Head: atom(0, "r", variable("X", 2), variable("Z", 4)),
			Body: []api.Part{
				atomPart(0, atom(8, "r", variable("X", 10), variable("Y", 12))),
				atomPart(0, atom(15, "edge", variable("Y", 20), variable("Z", 22))),
			},
		}}},
		{"p :- not  q, not% r\nr(X), nots.", []api.Rule{{
			Head: atom(0, "p"),
			Body: []api.Part{
				atomPart(1, atom(10, "q")),
				atomPart(1, atom(20, "r", variable("X", 22))),
				atomPart(0, atom(26, "nots")),
			},
		}}},
		{`p:-X=a,b != "Not",7<"",a , "s"=Y2_.`, []api.Rule{{
			Head: atom(0, "p"),
			Body: []api.Part{
				comparison(2, variable("X", 3), constant("a", 5)),
				comparison(3, constant("b", 7), constant("Not", 12)),
				comparison(4, constant("7", 18), constant("", 20)),
				atomPart(0, atom(23, "a")),
				comparison(2, constant("s", 27), variable("Y2_", 31)),
			},
		}}},
		{"p :- a\n%<\n= b, a %=\n, a%\n!=a, a\t< a, a(a).", []api.Rule{{
			Head: atom(0, "p"),
			Body: []api.Part{
				comparison(2, constant("a", 5), constant("b", 12)),
				atomPart(0, atom(15, "a")),
				comparison(3, constant("a", 22), constant("a", 27)),
				comparison(4, constant("a", 30), constant("a", 34)),
				atomPart(0, atom(37, "a", constant("a", 39))),
			},
		}}},
	} {
		if got := rulesOf(t, c.text); !reflect.DeepEqual(got, c.want) {
			t.Errorf("Parse(%q)\n = %v\nwant %v", c.text, got, c.want)
		}
	}
}

func TestStringBytes(t *testing.T) {
	for b := range 256 {
		if b == '"' || b == '\\' || b == '\n' {
			continue
		}
		text := "a" + string([]byte{byte(b)}) + "z"
		want := []api.Rule{{Head: atom(0, "p", constant(text, 2), variable("X", 8))}}
		if got := rulesOf(t, `p("`+text+`",X).`); !reflect.DeepEqual(got, want) {
			t.Errorf("%q: %v", text, got)
		}
	}
}

func TestQuery(t *testing.T) {
	for _, c := range []struct {
		text string
		want []api.Part
	}{
		{"p.", []api.Part{atomPart(0, atom(0, "p"))}},
		{"p(X,\"a b\"), not q(7), X < Y. % end", []api.Part{
			atomPart(0, atom(0, "p", variable("X", 2), constant("a b", 4))),
			atomPart(1, atom(16, "q", constant("7", 18))),
			comparison(4, variable("X", 22), variable("Y", 26)),
		}},
		{"a=b,a!=X,a.", []api.Part{
			comparison(2, constant("a", 0), constant("b", 2)),
			comparison(3, constant("a", 4), variable("X", 7)),
			atomPart(0, atom(9, "a")),
		}},
	} {
		got, errno, at := syntax.Query(c.text)
		for i := range got {
			emptyIsNil(&got[i].Atom.Args)
		}
		if errno != api.OK || at != 0 || !reflect.DeepEqual(got, c.want) {
			t.Errorf("Query(%q)\n = %v %d %d\nwant %v", c.text, got, errno, at, c.want)
		}
	}
}

// TestOwnMemory: what is put behind a list of an answer is seen in no other one,
// and what is written over in one is not in the next answer.
func TestOwnMemory(t *testing.T) {
	for _, text := range programs() {
		want := rulesOf(t, text)
		got := rulesOf(t, text)
		_ = append(got, api.Rule{})
		for _, rule := range got {
			_ = append(rule.Head.Args, constant("!", 0))
			_ = append(rule.Body, api.Part{Kind: 9})
			for _, part := range rule.Body {
				_ = append(part.Atom.Args, constant("!", 0))
			}
		}
		if !reflect.DeepEqual(got, want) {
			t.Errorf("Parse(%q): lists share memory", text)
		}
		clear(got)
		if !reflect.DeepEqual(rulesOf(t, text), want) {
			t.Errorf("Parse(%q): an answer is kept", text)
		}
	}
}
