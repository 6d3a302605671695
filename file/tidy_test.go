package file_test

import (
	"math"
	"reflect"
	"slices"
	"strings"
	"testing"

	"deduce/api"
	"deduce/file"
)

func TestName(t *testing.T) {
	for _, s := range []string{
		"a", "z", "p", "edge", "aB", "aZ9_", "a_", "a0", "nota", "no", "nott", "n", "nOt", "knot", "not_", "a______",
		strings.Repeat("x", 30), "a" + strings.Repeat("9", 29), "a" + strings.Repeat("_", 29),
	} {
		if !file.Name(s) {
			t.Errorf("Name(%q) = false", s)
		}
	}
	for _, s := range []string{
		"", "not", "A", "Z", "Ab", "0", "9a", "_", "_a", " a", "a ", "a b", "a-b", "a.b", "a\n", "a\x00", "\x00",
		"ä", "aä", "a\x80", "\xff", "a\xff", "a@", "a[", "a`", "a{", "a/", "a:", "`", "{",
		strings.Repeat("x", 31), "a" + strings.Repeat("9", 30), strings.Repeat("x", 1000), strings.Repeat("x", 29) + "é",
	} {
		if file.Name(s) {
			t.Errorf("Name(%q) = true", s)
		}
	}
}

func TestNameOfEachByte(t *testing.T) {
	const small, others = "abcdefghijklmnopqrstuvwxyz", "ABCDEFGHIJKLMNOPQRSTUVWXYZ0123456789_"
	for b := range 256 {
		s := string([]byte{byte(b)})
		isSmall := strings.Contains(small, s)
		isIn := isSmall || strings.Contains(others, s)
		for _, c := range []struct {
			s    string
			want bool
		}{{s, isSmall}, {s + "x", isSmall}, {"x" + s, isIn}, {"xy" + s + "z", isIn}, {strings.Repeat("x", 29) + s, isIn}} {
			if file.Name(c.s) != c.want {
				t.Errorf("Name(%q) = %v", c.s, !c.want)
			}
		}
	}
}

func TestTidy(t *testing.T) {
	for _, c := range []struct {
		name     string
		rows     [][]string
		arity    int
		wantRows [][]string
	}{
		{"no row", nil, 2, nil},
		{"one row", [][]string{row("a", "b")}, 2, [][]string{row("a", "b")}},
		{"by the first text", [][]string{row("b"), row("a"), row("c")}, 1, [][]string{row("a"), row("b"), row("c")}},
		{"then by the next ones", [][]string{row("a", "b", "a"), row("a", "a", "z"), row("a", "a", "b")}, 3,
			[][]string{row("a", "a", "b"), row("a", "a", "z"), row("a", "b", "a")}},
		{"the first text counts most", [][]string{row("b", "a"), row("a", "z")}, 2, [][]string{row("a", "z"), row("b", "a")}},
		{"text by text, not all in one", [][]string{row("ab", "c"), row("a", "zz")}, 2, [][]string{row("a", "zz"), row("ab", "c")}},
		{"byte by byte", [][]string{row("\xff"), row("a"), row("é"), row("Z"), row(""), row("aa"), row("\x00"), row("10"), row("9")}, 1,
			[][]string{row(""), row("\x00"), row("10"), row("9"), row("Z"), row("a"), row("aa"), row("é"), row("\xff")}},
		{"twice", [][]string{row("a", "b"), row("c", "d"), row("a", "b"), row("a", "b")}, 2, [][]string{row("a", "b"), row("c", "d")}},
		{"each of arity 0", [][]string{row(), row(), nil}, 0, [][]string{row()}},
		{"texts that join alike differ", [][]string{row("a", "bc"), row("ab", "c")}, 2, [][]string{row("a", "bc"), row("ab", "c")}},
		{"200 bytes", [][]string{row(strings.Repeat("x", 200))}, 1, [][]string{row(strings.Repeat("x", 200))}},
	} {
		got, errno, at := file.Tidy(relation("p", c.arity, c.rows...))
		if want := relation("p", c.arity, c.wantRows...); errno != api.OK || at != 0 || !same(got, want) {
			t.Errorf("%s: %v, %d, %d, want %v", c.name, got, errno, at, want)
		}
	}
}

// refused has relations of which there is no file, and why.
func refused() []struct {
	name string
	r    api.Relation
	want api.Errno
	at   int
} {
	long := strings.Repeat("x", 201)
	return []struct {
		name string
		r    api.Relation
		want api.Errno
		at   int
	}{
		{"zero", api.Relation{}, api.ErrName, 0},
		{"no name", relation("", 1, row("a")), api.ErrName, 0},
		{"not", relation("not", 1), api.ErrName, 0},
		{"a great letter", relation("P", 1), api.ErrName, 0},
		{"31 bytes", relation(strings.Repeat("p", 31), 1), api.ErrName, 0},
		{"name ahead of arity and rows", relation("P", 9, row("a", long)), api.ErrName, 0},
		{"arity below 0", relation("p", -1), api.ErrRange, 0},
		{"least arity", relation("p", math.MinInt), api.ErrRange, 0},
		{"arity 9", relation("p", 9), api.ErrRange, 0},
		{"greatest arity", relation("p", math.MaxInt), api.ErrRange, 0},
		{"arity 9 with a row of 9", relation("p", 9, slices.Repeat(row("a"), 9)), api.ErrRange, 0},
		{"arity ahead of rows", relation("p", 9, row(long)), api.ErrRange, 0},
		{"more texts", relation("p", 1, row("a", "b")), api.ErrArity, 0},
		{"fewer texts", relation("p", 2, row("a")), api.ErrArity, 0},
		{"no texts", relation("p", 1, row()), api.ErrArity, 0},
		{"texts where there are none", relation("p", 0, row(), row("")), api.ErrArity, 1},
		{"the first row of two", relation("p", 1, row("a"), row("b"), row("a", "b"), row()), api.ErrArity, 2},
		{"its number is that of what was handed in", relation("p", 1, row("z"), row("z"), row("y"), row()), api.ErrArity, 3},
		{"201 bytes", relation("p", 1, row(long)), api.ErrLong, 0},
		{"201 bytes in the last column", relation("p", 3, row("a", "b", "c"), row("a", "b", long)), api.ErrLong, 1},
		{"both in one row", relation("p", 1, row("a"), row("a", long)), api.ErrArity, 1},
		{"a length ahead of another number", relation("p", 1, row(long), row()), api.ErrLong, 0},
		{"another number ahead of a length", relation("p", 1, row(), row(long)), api.ErrArity, 0},
		{"2001 rows", relation("p", 1, many(2001)...), api.ErrMany, 0},
		{"2001 rows, and one more twice", relation("p", 1, append(many(2001), row("1"))...), api.ErrMany, 0},
		{"a fault ahead of too many", relation("p", 1, append(many(2001), row())...), api.ErrArity, 2001},
		{"a length ahead of too many", relation("p", 1, append(many(2500), row(long))...), api.ErrLong, 2500},
	}
}

func TestTidyRefuses(t *testing.T) {
	for _, c := range refused() {
		got, errno, at := file.Tidy(c.r)
		wantErrno(t, c.name, isZero(got), errno, at, c.want, c.at)
	}
}

func TestTidyOfTheMostRows(t *testing.T) {
	for _, rows := range [][][]string{many(2000), slices.Concat(many(2000), many(2000), many(2000))} {
		got, errno, at := file.Tidy(relation("p", 1, rows...))
		if errno != api.OK || at != 0 || len(got.Rows) != 2000 {
			t.Fatalf("Tidy of %d rows = %d rows, %d, %d", len(rows), len(got.Rows), errno, at)
		}
		for i, one := range got.Rows[1:] {
			if got.Rows[i][0] >= one[0] {
				t.Errorf("row %d, %q, is not behind %q", i+1, one, got.Rows[i])
			}
		}
	}
}

func TestTidyOfTidy(t *testing.T) {
	for _, r := range samples() {
		tidy, errno, _ := file.Tidy(r)
		again, errno2, _ := file.Tidy(tidy)
		if errno != api.OK || errno2 != api.OK || !same(tidy, again) {
			t.Errorf("%s: Tidy of Tidy differs: %d, %d", r.Name, errno, errno2)
		}
	}
}

func TestWhatIsHandedInStays(t *testing.T) {
	list := samples()
	for _, c := range refused() {
		list = append(list, c.r)
	}
	for _, r := range list {
		kept := copyOf(r)
		file.Tidy(r)
		file.Encode(r)
		if !reflect.DeepEqual(r, kept) {
			t.Errorf("%s: what was handed in is now another one", r.Name)
		}
	}
}

// spoil writes over every text of a relation, and into what its lists have room for.
func spoil(r api.Relation) {
	for i := range r.Rows {
		one := r.Rows[i][:cap(r.Rows[i])]
		for j := range one {
			one[j] = "spoiled"
		}
	}
	all := r.Rows[:cap(r.Rows)]
	for i := range all {
		all[i] = row("spoiled")
	}
}

func TestTidySharesNothing(t *testing.T) {
	for _, r := range samples() {
		kept := copyOf(r)
		tidy, _, _ := file.Tidy(r)
		keptTidy := copyOf(tidy)
		spoil(tidy)
		if !reflect.DeepEqual(r, kept) {
			t.Errorf("%s: writing into the answer changes what was handed in", r.Name)
		}
		tidy, _, _ = file.Tidy(r)
		spoil(r)
		if !same(tidy, keptTidy) {
			t.Errorf("%s: writing into what was handed in changes the answer", r.Name)
		}
	}
}

// Rows that lie behind one another in one memory, with room behind them: the
// rows of an answer do not.
func TestRowsOfAnAnswerShareNothing(t *testing.T) {
	flat := row("a", "b", "c", "d", "e", "f")
	tidy, _, _ := file.Tidy(relation("p", 2, flat[0:2], flat[2:4], flat[4:6], flat[0:2]))
	data, _, _ := file.Encode(tidy)
	read, _, _ := file.Decode(data)
	for _, r := range []api.Relation{tidy, read} {
		for i := range r.Rows {
			kept := copyOf(r)
			one := append(r.Rows[i], "more")
			one = one[:cap(one)]
			for j := range one {
				one[j] = "spoiled"
			}
			for k := range r.Rows {
				if k != i && !slices.Equal(r.Rows[k], kept.Rows[k]) {
					t.Errorf("writing into row %d changes row %d", i, k)
				}
			}
			r = kept
		}
	}
}
