package eval_test

import (
	"slices"
	"strconv"
	"strings"
	"testing"

	"deduce/api"
	"deduce/eval"
)

// given reads relations: `e/2: a b; b c | n/1: a | t/0: ;` where a row ends at
// ';'. One without ':' has no rows.
func given(text string) []api.Relation {
	var list []api.Relation
	for _, one := range strings.Split(text, "|") {
		if strings.TrimSpace(one) == "" {
			continue
		}
		head, body, _ := strings.Cut(one, ":")
		name, arity, _ := strings.Cut(strings.TrimSpace(head), "/")
		r := api.Relation{Name: name}
		r.Arity, _ = strconv.Atoi(arity)
		for _, row := range strings.SplitAfter(body, ";") {
			if strings.TrimSpace(row) != "" {
				r.Rows = append(r.Rows, strings.Fields(strings.TrimSuffix(row, ";")))
			}
		}
		list = append(list, r)
	}
	return list
}

// told writes relations as given reads them, with '|' between and no blanks about
// signs.
func told(list []api.Relation) string {
	var relations []string
	for _, r := range list {
		text := r.Name + "/" + strconv.Itoa(r.Arity)
		for _, row := range r.Rows {
			text += " " + strings.Join(row, ",") + ";"
		}
		relations = append(relations, text)
	}
	return strings.Join(relations, "|")
}

func copyOf(list []api.Relation) []api.Relation {
	list = slices.Clone(list)
	for i := range list {
		list[i].Rows = slices.Clone(list[i].Rows)
		for j := range list[i].Rows {
			list[i].Rows[j] = slices.Clone(list[i].Rows[j])
		}
	}
	return list
}

func count(list []api.Relation) int {
	n := 0
	for _, r := range list {
		n += len(r.Rows)
	}
	return n
}

const most = 100000

// model answers a model that is wanted without an error.
func model(t *testing.T, text string, facts []api.Relation) []api.Relation {
	t.Helper()
	list, errno, at := eval.Model(text, facts, most)
	if errno != api.OK || at != 0 {
		t.Fatalf("Model(%q): %d %d", text, errno, at)
	}
	return list
}

// one is a case of Model: rules, facts and all that follows.
type one struct{ text, facts, want string }

func hold(t *testing.T, cases []one) {
	t.Helper()
	for _, c := range cases {
		if got := told(model(t, c.text, given(c.facts))); got != c.want {
			t.Errorf("Model(%q, %q):\n%s, want\n%s", c.text, c.facts, got, c.want)
		}
	}
}

// wrong holds an error of Model, and with the greatest number of facts that of
// Rounds too.
func wrong(t *testing.T, text string, facts []api.Relation, most int, errno api.Errno, at int) {
	t.Helper()
	list, gotErrno, gotAt := eval.Model(text, facts, most)
	if list != nil || gotErrno != errno || gotAt != at {
		t.Errorf("Model(%q, %v, %d): %v, %d, %d, want %d, %d", text, facts, most, list, gotErrno, gotAt, errno, at)
	}
	if most != 100000 {
		return
	}
	for _, name := range []string{"p", "n", ""} {
		level, round, gotErrno, gotAt := eval.Rounds(text, facts, name, []string{"a"})
		if level != 0 || round != 0 || gotErrno != errno || gotAt != at {
			t.Errorf("Rounds(%q, %v, %q): %d, %d, %d, %d, want 0, 0, %d, %d", text, facts, name, level, round, gotErrno, gotAt, errno, at)
		}
	}
}
