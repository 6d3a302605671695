package rows_test

import (
	"math/rand"
	"reflect"
	"slices"
	"testing"

	"deduce/rows"
)

// What the tests hold the calls against: the chapter's words, told of all rows
// one by one, and put in by hand where they belong.

// ahead tells whether a row stands ahead of another one.
func ahead(a, b []string) bool {
	for i := range a {
		if i == len(b) {
			return false
		}
		if a[i] != b[i] {
			return a[i] < b[i]
		}
	}
	return len(a) < len(b)
}

func has(all [][]string, row []string) bool {
	return slices.ContainsFunc(all, func(other []string) bool { return slices.Equal(other, row) })
}

// with puts a row in its place among rising ones, if it is not there.
func with(all [][]string, row []string) [][]string {
	if has(all, row) {
		return all
	}
	place := 0
	for place < len(all) && ahead(all[place], row) {
		place++
	}
	return slices.Insert(all, place, row)
}

func oracleRise(a [][]string) [][]string {
	var all [][]string
	for _, row := range a {
		all = with(all, row)
	}
	return all
}

func oracleMinus(a, b [][]string) [][]string {
	var all [][]string
	for _, row := range a {
		if !has(b, row) {
			all = with(all, row)
		}
	}
	return all
}

func oraclePick(a [][]string, columns []int) [][]string {
	var all [][]string
rows:
	for _, row := range a {
		texts := make([]string, len(columns))
		for i, column := range columns {
			if column < 0 || column > len(row)-1 {
				continue rows
			}
			texts[i] = row[column]
		}
		all = with(all, texts)
	}
	return all
}

func oracleJoin(a, b [][]string, on [][2]int) [][]string {
	var all [][]string
	for _, one := range a {
	others:
		for _, other := range b {
			for _, pair := range on {
				i, j := pair[0], pair[1]
				if i < 0 || j < 0 || i > len(one)-1 || j > len(other)-1 || one[i] != other[j] {
					continue others
				}
			}
			all = with(all, append(slices.Clone(one), other...))
		}
	}
	return all
}

func TestAgainstOracle(t *testing.T) {
	random := rand.New(rand.NewSource(6))
	texts := []string{"", "a", "b", "ab", "1:a", ":", "\x00", "\xff"}
	some := func() [][]string {
		all := make([][]string, random.Intn(7))
		few := 1 + random.Intn(len(texts))
		for i := range all {
			for range random.Intn(4) {
				all[i] = append(all[i], texts[random.Intn(few)])
			}
		}
		return all
	}
	for range 20000 {
		a, b := some(), some()
		var columns []int
		var on [][2]int
		for range random.Intn(4) {
			columns = append(columns, random.Intn(4)-random.Intn(2)*random.Intn(2))
			on = append(on, [2]int{random.Intn(3) - random.Intn(2)*random.Intn(2), random.Intn(3)})
		}
		on = on[:len(on)/2]
		for _, c := range []struct {
			name      string
			got, want [][]string
		}{
			{"Rise", rows.Rise(a), oracleRise(a)},
			{"Union", rows.Union(a, b), oracleRise(slices.Concat(a, b))},
			{"Minus", rows.Minus(a, b), oracleMinus(a, b)},
			{"Pick", rows.Pick(a, columns), oraclePick(a, columns)},
			{"Join", rows.Join(a, b, on), oracleJoin(a, b, on)},
		} {
			if !same(c.got, c.want) {
				t.Fatalf("%s(%q, %q, %v, %v): %q, want %q", c.name, a, b, columns, on, c.got, c.want)
			}
		}
	}
}

// What is handed in stays as it is, with what stands behind it in its memory.
func TestWhatIsHandedInStays(t *testing.T) {
	for _, a := range samples() {
		for _, b := range samples() {
			for _, c := range calls() {
				// Room behind each list would take what is put behind it.
				a, b := roomy(a), roomy(b)
				keptA, keptB := copyOf(a[:cap(a)]), copyOf(b[:cap(b)])
				c.of(a, b)
				if !reflect.DeepEqual(a[:cap(a)], keptA) || !reflect.DeepEqual(b[:cap(b)], keptB) {
					t.Errorf("%s(%q, %q) changes what it is handed", c.name, keptA, keptB)
				}
			}
		}
	}
}

// roomy answers the same rows, all in one memory, one behind the other.
func roomy(all [][]string) [][]string {
	flat := slices.Concat(all...)
	list := make([][]string, 0, len(all)+3)
	for _, row := range all {
		list = append(list, flat[:len(row)])
		flat = flat[len(row):]
	}
	return list
}

// spoil writes over all texts of rows, and into what these have room for.
func spoil(all [][]string) {
	for _, row := range all {
		row = row[:cap(row)]
		for i := range row {
			row[i] = "spoiled"
		}
	}
}

func TestAnswersAreNew(t *testing.T) {
	for _, a := range samples() {
		for _, b := range samples() {
			for _, c := range calls() {
				a, b := roomy(a), roomy(b)
				keptA, keptB := copyOf(a), copyOf(b)
				answer := c.of(a, b)
				kept := copyOf(answer)
				spoil(answer)
				for i := range answer {
					answer[i] = []string{"spoiled"}
				}
				if !same(a, keptA) || !same(b, keptB) {
					t.Errorf("%s(%q, %q): writing into the answer changes what was handed in", c.name, keptA, keptB)
				}
				answer = c.of(a, b)
				spoil(a)
				spoil(b)
				if !same(answer, kept) {
					t.Errorf("%s(%q, %q): writing into what was handed in changes the answer", c.name, keptA, keptB)
				}
			}
		}
	}
}

func TestRowsOfAnAnswerShareNothing(t *testing.T) {
	for _, a := range samples() {
		for _, c := range calls() {
			kept := copyOf(c.of(a, a))
			for i := range kept {
				answer := c.of(roomy(a), roomy(a))
				spoil(answer[i : i+1])
				_ = append(answer[i], "spoiled")
				for j := range answer {
					if i != j && !slices.Equal(answer[j], kept[j]) {
						t.Errorf("%s(%q): writing into row %d changes row %d", c.name, a, i, j)
					}
				}
			}
		}
	}
}
