package ask_test

import (
	"fmt"
	"strconv"
	"strings"
	"testing"

	"deduce/api"
	"deduce/ask"
)

// given reads relations: `e/2: a b; b c | n/1: a | t/0: ;` where a row ends at
// ';'. One without ':' has no rows.
func given(text string) []api.Relation {
	var list []api.Relation
	for _, one := range strings.Split(text, "|") {
		if strings.TrimSpace(one) == "" {
			continue
		}
		head, body, _ := strings.Cut(one, ":")
		name, arity, _ := strings.Cut(strings.TrimSpace(head), "/")
		r := api.Relation{Name: name}
		r.Arity, _ = strconv.Atoi(arity)
		for _, row := range strings.SplitAfter(body, ";") {
			if strings.TrimSpace(row) != "" {
				r.Rows = append(r.Rows, strings.Fields(strings.TrimSuffix(row, ";")))
			}
		}
		list = append(list, r)
	}
	return list
}

// many answers rows of one text each that differ.
func many(n int) [][]string {
	var rows [][]string
	for i := range n {
		rows = append(rows, []string{strconv.Itoa(i)})
	}
	return rows
}

// told writes an answer: the variables, ':' and the rows, each with ';' behind it.
func told(variables []string, rows [][]string) string {
	text := strings.Join(variables, " ") + ":"
	for _, row := range rows {
		text += " " + strings.Join(row, ",") + ";"
	}
	return text
}

// answer answers what is asked without an error.
func answer(t *testing.T, query string, model []api.Relation) ([]string, [][]string) {
	t.Helper()
	variables, rows, errno, at := ask.Ask(query, model)
	if errno != api.OK || at != 0 {
		t.Fatalf("Ask(%q, %v): %d %d", query, model, errno, at)
	}
	for _, row := range rows {
		if len(row) != len(variables) {
			t.Fatalf("Ask(%q, %v): a row %q for %q", query, model, row, variables)
		}
	}
	return variables, rows
}

// one is a case of Ask: a query, and the answer as told writes it.
type one struct{ query, want string }

func hold(t *testing.T, model string, cases []one) {
	t.Helper()
	for _, c := range cases {
		if got := told(answer(t, c.query, given(model))); got != c.want {
			t.Errorf("Ask(%q, %q): %q, want %q", c.query, model, got, c.want)
		}
	}
}

func wrong(t *testing.T, query string, model []api.Relation, errno api.Errno, at int) {
	t.Helper()
	variables, rows, gotErrno, gotAt := ask.Ask(query, model)
	if variables != nil || rows != nil || gotErrno != errno || gotAt != at {
		t.Errorf("Ask(%q, %s): %q %q %d %d, want %d %d", query, fmt.Sprint(model), variables, rows, gotErrno, gotAt, errno, at)
	}
}
