package rows_test

import (
	"slices"
	"strings"
	"testing"

	"deduce/rows"
)

// list reads rows: one ends at ';', texts stand between blanks; ~ is a text
// without bytes.
func list(text string) [][]string {
	if text == "" {
		return nil
	}
	var all [][]string
	for _, one := range strings.Split(text, ";") {
		row := strings.Fields(one)
		for i := range row {
			if row[i] == "~" {
				row[i] = ""
			}
		}
		all = append(all, row)
	}
	return all
}

func same(a, b [][]string) bool { return slices.EqualFunc(a, b, slices.Equal[[]string]) }

func copyOf(all [][]string) [][]string {
	all = slices.Clone(all)
	for i := range all {
		all[i] = slices.Clone(all[i])
	}
	return all
}

func hold(t *testing.T, what string, got, want [][]string) {
	t.Helper()
	if !same(got, want) {
		t.Errorf("%s: %q, want %q", what, got, want)
	}
}

// call is one of the package's calls of two lists; some look at the first alone.
type call struct {
	name string
	of   func(a, b [][]string) [][]string
}

func calls() []call {
	return []call{
		{"Rise", func(a, _ [][]string) [][]string { return rows.Rise(a) }},
		{"Union", rows.Union},
		{"Minus", rows.Minus},
		{"Pick nothing", func(a, _ [][]string) [][]string { return rows.Pick(a, nil) }},
		{"Pick 0", func(a, _ [][]string) [][]string { return rows.Pick(a, []int{0}) }},
		{"Pick 1 0 1", func(a, _ [][]string) [][]string { return rows.Pick(a, []int{1, 0, 1}) }},
		{"Join all", func(a, b [][]string) [][]string { return rows.Join(a, b, nil) }},
		{"Join 0 0", func(a, b [][]string) [][]string { return rows.Join(a, b, [][2]int{{0, 0}}) }},
		{"Join 1 0 0 1", func(a, b [][]string) [][]string { return rows.Join(a, b, [][2]int{{1, 0}, {0, 1}}) }},
	}
}

// samples has lists of rows of several lengths, in and out of order.
func samples() [][][]string {
	return [][][]string{
		nil,
		{{}},
		{nil, {}},
		list("a"),
		list("a;a;a"),
		list("a b;b a;a b"),
		list("c;b;a"),
		list("a;a b;a b c;b"),
		list("b;a b c;a b;a"),
		list("~ a;a ~;~;;~ ~"),
		list("ab c;a bc;abc"),
		list("a b;c d;b a;d c;a a"),
	}
}
