package why_test

import (
	"strconv"
	"strings"
	"testing"

	"deduce/api"
	"deduce/eval"
	"deduce/why"
)

// given reads relations: `e/2: a b; b c | n/1: a | t/0: ;` where a row ends at
// ';'. One without ':' has no rows.
func given(text string) []api.Relation {
	var list []api.Relation
	for _, one := range strings.Split(text, "|") {
		if strings.TrimSpace(one) == "" {
			continue
		}
		head, body, _ := strings.Cut(one, ":")
		name, arity, _ := strings.Cut(strings.TrimSpace(head), "/")
		r := api.Relation{Name: name}
		r.Arity, _ = strconv.Atoi(arity)
		for _, row := range strings.SplitAfter(body, ";") {
			if strings.TrimSpace(row) != "" {
				r.Rows = append(r.Rows, strings.Fields(strings.TrimSuffix(row, ";")))
			}
		}
		list = append(list, r)
	}
	return list
}

// split answers a fact's name and its texts.
func split(fact string) (string, []string) {
	words := strings.Fields(fact)
	return words[0], words[1:]
}

// proven answers a proof that is wanted without an error.
func proven(t *testing.T, text string, facts []api.Relation, name string, row ...string) string {
	t.Helper()
	proof, errno, at := why.Why(text, facts, name, row)
	if errno != api.OK || at != 0 {
		t.Fatalf("Why(%q, %v, %s, %q): %d %d", text, facts, name, row, errno, at)
	}
	return proof
}

// one is a case of Why: rules, facts, a fact and its proof, with a newline ahead.
type one struct{ text, facts, fact, want string }

func hold(t *testing.T, cases []one) {
	t.Helper()
	for _, c := range cases {
		name, row := split(c.fact)
		if got := "\n" + proven(t, c.text, given(c.facts), name, row...); got != c.want {
			t.Errorf("Why(%q, %q, %q):%swant:%s", c.text, c.facts, c.fact, got, c.want)
		}
	}
}

// wrong holds an error of Why, which is that of Rounds.
func wrong(t *testing.T, text string, facts []api.Relation, name string, row []string, errno api.Errno, at int) {
	t.Helper()
	proof, gotErrno, gotAt := why.Why(text, facts, name, row)
	if proof != "" || gotErrno != errno || gotAt != at {
		t.Errorf("Why(%q, %v, %q, %q): %q, %d, %d, want %d, %d", text, facts, name, row, proof, gotErrno, gotAt, errno, at)
	}
	if _, _, roundsErrno, roundsAt := eval.Rounds(text, facts, name, row); roundsErrno != errno || roundsAt != at {
		t.Errorf("Rounds(%q, %v, %q, %q): %d, %d, want %d, %d", text, facts, name, row, roundsErrno, roundsAt, errno, at)
	}
}
