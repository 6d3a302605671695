package rows_test

import (
	"math"
	"testing"

	"deduce/rows"
)

func TestRise(t *testing.T) {
	for _, c := range []struct{ a, want string }{
		{"", ""},
		{"a", "a"},
		{";", " "},
		{"a;;b;", " ;a;b"},
		{"a b;a b;a b", "a b"},
		{"a;b;a;b", "a;b"},
		{"a;b;c", "a;b;c"},
		{"c;b;a", "a;b;c"},
		{"a b;a;a b c;b", "a;a b;a b c;b"},
		{"a z;ab a", "a z;ab a"},
		{"ab a;a z", "a z;ab a"},
		{"b a;a b;a a;b", "a a;a b;b;b a"},
		{"abc;ab c;a bc;a b c", "a b c;a bc;ab c;abc"},
		{"é;z;Z;9;10;~;_", "~;10;9;Z;_;z;é"},
		{"~ ~;~; ;a ~;a", " ;~;~ ~;a;a ~"},
	} {
		hold(t, "Rise("+c.a+")", rows.Rise(list(c.a)), list(c.want))
	}
	hold(t, "Rise of one row without texts", rows.Rise([][]string{{}}), [][]string{{}})
	hold(t, "Rise of bytes", rows.Rise([][]string{{"\xff"}, {"\x00"}, {"a\x00"}, {"a"}}), [][]string{{"\x00"}, {"a"}, {"a\x00"}, {"\xff"}})
}

func TestUnion(t *testing.T) {
	for _, c := range []struct{ a, b, want string }{
		{"", "", ""},
		{"a", "", "a"},
		{"", "a", "a"},
		{"b;a", "", "a;b"},
		{"", "b;a;b", "a;b"},
		{"a;b", "a;b", "a;b"},
		{"a;a;b", "b;b;a", "a;b"},
		{"c;a", "b", "a;b;c"},
		{"a b", "a", "a;a b"},
		{"a;", ";b", " ;a;b"},
		{"a bc", "ab c", "a bc;ab c"},
	} {
		hold(t, "Union("+c.a+" | "+c.b+")", rows.Union(list(c.a), list(c.b)), list(c.want))
	}
}

func TestMinus(t *testing.T) {
	for _, c := range []struct{ a, b, want string }{
		{"", "", ""},
		{"b;a;b", "", "a;b"},
		{"", "a;b", ""},
		{"a;b", "b;a", ""},
		{"a;a;b;b", "b;b", "a"},
		{"c;a;b", "b", "a;c"},
		{"a", "b", "a"},
		// A row is another one than what it begins, or begins with.
		{"a;a b;a b c", "a b", "a;a b c"},
		{"a b", "a;b", "a b"},
		{"a;;b", ";", "a;b"},
		{"a;;b", "~", " ;a;b"},
		{"~;~ ~;", "~ ~", " ;~"},
		// Texts that join alike differ, wherever they are cut.
		{"a bc;ab c;abc;a b c", "ab c", "a b c;a bc;abc"},
		{"1:a", "a", "1:a"},
		{"a1:b", "a b", "a1:b"},
		{"a:b c", "a b:c", "a:b c"},
		{"0 aaaaaaaaa", "9aaaaaaaaa", "0 aaaaaaaaa"},
	} {
		hold(t, "Minus("+c.a+" | "+c.b+")", rows.Minus(list(c.a), list(c.b)), list(c.want))
	}
}

func TestPick(t *testing.T) {
	for _, c := range []struct {
		a       string
		columns []int
		want    string
	}{
		{"", []int{0}, ""},
		{"", nil, ""},
		{"a;b", []int{0}, "a;b"},
		{"b a;a b", []int{1}, "a;b"},
		{"a b c", []int{0, 0}, "a a"},
		{"a b c", []int{2, 0, 1}, "c a b"},
		{"a b c", []int{2, 0, 2, 2, 1}, "c a c c b"},
		{"a x;b y", []int{1, 0}, "x a;y b"},
		{"a y;b x", []int{1, 0}, "x b;y a"},
		// A column that no row has, that some have, and one less than 0.
		{"a b;c d", []int{2}, ""},
		{"a b;c d", []int{0, 2}, ""},
		{"a b;c d", []int{2, 0}, ""},
		{"a;b c;d e f;", []int{1}, "c;e"},
		{"a;b c;d e f;", []int{0}, "a;b;d"},
		{"a;b c;d e f;", []int{2, 0}, "f d"},
		{"a b;c d", []int{-1}, ""},
		{"a b;c d", []int{0, -1}, ""},
		{"a b", []int{math.MinInt}, ""},
		{"a b", []int{math.MaxInt}, ""},
		// Rows that come out the same, or fall.
		{"a x;a y;a x;b x", []int{0}, "a;b"},
		{"a z;b y;c x", []int{1}, "x;y;z"},
		{"a bc;ab c", []int{0, 1}, "a bc;ab c"},
	} {
		if got := rows.Pick(list(c.a), c.columns); !same(got, list(c.want)) {
			t.Errorf("Pick(%s, %v): %q, want %q", c.a, c.columns, got, c.want)
		}
	}
}

// Without columns each row has all of them, one without texts too.
func TestPickNoColumns(t *testing.T) {
	for _, a := range []string{"a", "a b;c;a", " ;", "a;"} {
		for _, columns := range [][]int{nil, {}} {
			hold(t, "Pick("+a+", nothing)", rows.Pick(list(a), columns), [][]string{{}})
		}
	}
	hold(t, "Pick of one row without texts", rows.Pick([][]string{{}}, nil), [][]string{{}})
	hold(t, "Pick 0 of one row without texts", rows.Pick([][]string{{}}, []int{0}), nil)
}

func TestJoin(t *testing.T) {
	for _, c := range []struct {
		a, b string
		on   [][2]int
		want string
	}{
		// No pairs: each row with each.
		{"a;b", "x;y", nil, "a x;a y;b x;b y"},
		{"b;a", "y;x;y", [][2]int{}, "a x;a y;b x;b y"},
		{"a b", "a b", nil, "a b a b"},
		{"a;", "x;", nil, " ;a;a x;x"},
		// One pair.
		{"a b;c d", "b x;d y", [][2]int{{1, 0}}, "a b b x;c d d y"},
		{"a b;c d", "b x;d y", [][2]int{{0, 0}}, ""},
		{"a b;a c;d b", "b x;b y;c z", [][2]int{{1, 0}}, "a b b x;a b b y;a c c z;d b b x;d b b y"},
		{"a b", "x a", [][2]int{{0, 1}}, "a b x a"},
		{"a b", "b a", [][2]int{{0, 0}}, ""},
		// Several pairs.
		{"a b;a c", "a b;c a", [][2]int{{0, 0}, {1, 1}}, "a b a b"},
		{"a b;a c", "a b;c a", [][2]int{{0, 1}, {1, 0}}, "a c c a"},
		{"a b;a a", "a;b", [][2]int{{0, 0}, {1, 0}}, "a a a"},
		{"a b;a c", "a", [][2]int{{0, 0}, {0, 0}}, "a b a;a c a"},
		{"a bc;ab c", "a bc;ab c", [][2]int{{0, 0}, {1, 1}}, "a bc a bc;ab c ab c"},
		{"a bc", "ab c", [][2]int{{0, 0}, {1, 1}}, ""},
		// A column that the row of one side has not.
		{"a;b c", "c;a", [][2]int{{1, 0}}, "b c c"},
		{"c;a", "a;b c", [][2]int{{0, 1}}, "c b c"},
		{"a;b", "a;b", [][2]int{{1, 0}}, ""},
		{"a;b", "a;b", [][2]int{{0, 1}}, ""},
		{"a;b", "a;b", [][2]int{{1, 1}}, ""},
		{"a;b", "a;b", [][2]int{{0, 0}, {5, 7}}, ""},
		{" ;a", "a; ", [][2]int{{0, 0}}, "a a"},
		{"~;a", "~ b", [][2]int{{0, 0}}, "~ ~ b"},
		// Numbers less than 0, and great ones.
		{"a", "a", [][2]int{{-1, 0}}, ""},
		{"a", "a", [][2]int{{0, -1}}, ""},
		{"a", "a", [][2]int{{-1, -1}}, ""},
		{"a", "a", [][2]int{{0, 0}, {math.MinInt, math.MaxInt}}, ""},
		// Either side empty.
		{"", "a;b", nil, ""},
		{"a;b", "", nil, ""},
		{"", "", nil, ""},
		{"", "a", [][2]int{{0, 0}}, ""},
		{"a", "", [][2]int{{0, 0}}, ""},
		// Rows that come out the same in two ways, or in another order.
		{"a;a b", "b c;c", nil, "a b c;a b b c;a c"},
		{"a;a a", "a;a a", nil, "a a;a a a;a a a a"},
		{"a;a;a", "b;b", nil, "a b"},
		{"a;a b", "x;c", nil, "a c;a x;a b c;a b x"},
	} {
		want := rows.Rise(list(c.want))
		if got := rows.Join(list(c.a), list(c.b), c.on); !same(got, want) {
			t.Errorf("Join(%s | %s, %v): %q, want %q", c.a, c.b, c.on, got, want)
		}
	}
	hold(t, "Join of rows without texts", rows.Join([][]string{{}}, [][]string{nil, {}}, nil), [][]string{{}})
}

// Rows that stand there often make no more work than one.
func TestJoinOfRowsThatStandOften(t *testing.T) {
	var a, b [][]string
	for range 50000 {
		a = append(a, []string{"a", "b"})
		b = append(b, []string{"b", "c"})
	}
	hold(t, "Join", rows.Join(a, b, [][2]int{{1, 0}}), list("a b b c"))
	hold(t, "Join all", rows.Join(a, b, nil), list("a b b c"))
}
