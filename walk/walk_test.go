package walk_test

import (
	"iter"
	"strconv"
	"strings"
	"testing"

	"deduce/api"
	"deduce/syntax"
	"deduce/walk"
)

func parsed(t *testing.T, text string) []api.Rule {
	t.Helper()
	rules, errno, at := syntax.Parse(text)
	if errno != api.OK {
		t.Fatalf("Parse(%q): %d %d", text, errno, at)
	}
	return rules
}

// taken writes what is handed out, and leaves when it has most of it.
func taken[T any](things iter.Seq[T], most int, write func(T) string) string {
	var all []string
	for thing := range things {
		all = append(all, write(thing))
		if len(all) == most {
			break
		}
	}
	return strings.Join(all, " ")
}

// holdEach holds what is handed out of rules, and each beginning of it.
func holdEach[T any](t *testing.T, text string, of func(api.Rule) iter.Seq[T], write func(T) string, want string) {
	t.Helper()
	things := walk.Each(parsed(t, text), of)
	wants := strings.Fields(want)
	for most := 1; most <= len(wants)+1; most++ {
		want := strings.Join(wants[:min(most, len(wants))], " ")
		if got := taken(things, most, write); got != want {
			t.Errorf("%q: the first %d: %q, want %q", text, most, got, want)
		}
	}
}

func writeAtom(a api.Atom) string { return a.Name + strconv.Itoa(a.At) }

func writeTerm(x api.Term) string { return x.Text + strconv.Itoa(x.At) }

func TestAtoms(t *testing.T) {
	for _, c := range []struct{ text, want string }{
		{"", ""},
		{"p.", "p0"},
		{"p. p(a). q.", "p0 p3 q9"},
		{"p :- q, not r, a = b, s(b), c != d, not t.", "p0 q5 r12 s22 t40"},
		{"p :- a < b. q :- r. s.", "p0 q12 r17 s20"},
	} {
		holdEach(t, c.text, walk.Atoms, writeAtom, c.want)
	}
}

func TestBody(t *testing.T) {
	for _, c := range []struct{ text, want string }{
		{"p.", ""},
		{"p :- a = b, a != b, a < b.", ""},
		{"p :- q, not r, a = b, s(b), c != d, not t.", "q5:0 r12:1 s22:0 t40:1"},
	} {
		rule := parsed(t, c.text)[0]
		wants := strings.Fields(c.want)
		for most := 1; most <= len(wants)+1; most++ {
			var got []string
			for kind, atom := range walk.Body(rule) {
				got = append(got, writeAtom(atom)+":"+strconv.Itoa(kind))
				if len(got) == most {
					break
				}
			}
			want := strings.Join(wants[:min(most, len(wants))], " ")
			if got := strings.Join(got, " "); got != want {
				t.Errorf("%q: the first %d: %q, want %q", c.text, most, got, want)
			}
		}
	}
}

func TestUnbound(t *testing.T) {
	for _, c := range []struct{ text, want string }{
		{"", ""},
		{"p(a,\"X\").", ""},
		{"p(X) :- q(X).", ""},
		{"p(X) :- not r(X,Y), X = Y, q(Y,X).", ""},
		{"p(X,a,Y,X).", "X2 Y6 X8"},
		{"p(X) :- not q(X,\"X\",x,Y), Y = a, a != X, Z < Y, r(Y,\"Z\").", "X2 X14 X38 Z41"},
		{"p(X) :- q(X). p(X) :- q(Y), Y < Z.", "X16 Z32"},
	} {
		holdEach(t, c.text, walk.Unbound, writeTerm, c.want)
	}
}

// A rule that is walked is not changed, though its head's terms are gone on from.
func TestNotChanged(t *testing.T) {
	args := make([]api.Term, 1, 8)
	args[0] = api.Term{Text: "a"}
	rule := api.Rule{
		Head: api.Atom{Name: "p", Args: args},
		Body: []api.Part{{Kind: 1, Atom: api.Atom{Name: "q", Args: []api.Term{{Var: true, Text: "X"}}}}},
	}
	if got := taken(walk.Unbound(rule), 2, writeTerm); got != "X0" {
		t.Error(got)
	}
	if args[:2][1] != (api.Term{}) {
		t.Error("the head's terms were written behind")
	}
}
