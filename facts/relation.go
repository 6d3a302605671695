package facts

import (
	"iter"
	"slices"

	"deduce/limits"
)

// Row has the number of a text in each column; behind the last column there is 0.
type Row [limits.MaxArity]int

// Columns are some of a row's columns: a bit for each, the lowest one for the
// first.
type Columns int

// With answers these columns and one more.
func (c Columns) With(column int) Columns { return c | 1<<column }

// of answers a row with what one has in these columns, and 0 elsewhere.
func (c Columns) of(row Row) Row {
	var only Row
	for column, number := range row {
		if c>>column&1 == 1 {
			only[column] = number
		}
	}
	return only
}

// Span is a piece of a relation: its rows from the one number on, up to the other.
type Span struct{ from, to int }

// Empty tells whether there is no row in a span.
func (s Span) Empty() bool { return s.from == s.to }

// index has the numbers of rows, rising, by what these have in some columns.
type index map[Row][]int

func (x index) add(key Row, number int) { x[key] = append(x[key], number) }

// Relation has the rows of one name, in the order in which they came. Those that
// come while a round goes on are in none of its spans before the round has ended.
type Relation struct {
	arity   int
	rows    []Row
	rounds  []int // of each row: they rise
	old     int   // so many were there when the round ahead began
	now     int   // so many were there when this one began
	indexes map[Columns]index
}

func newRelation(arity int) *Relation {
	return &Relation{arity: arity, indexes: map[Columns]index{}}
}

// All is what is there in this round.
func (r *Relation) All() Span { return Span{0, r.now} }

// New is what the round ahead has added.
func (r *Relation) New() Span { return Span{r.old, r.now} }

// Old is what is there and not new.
func (r *Relation) Old() Span { return Span{0, r.old} }

// Before is what came in rounds ahead of that one, be it in this round's spans or
// not.
func (r *Relation) Before(round int) Span {
	to, _ := slices.BinarySearch(r.rounds, round)
	return Span{0, to}
}

// Turn begins a round, and tells whether there is something new in it.
func (r *Relation) Turn() bool {
	r.old, r.now = r.now, len(r.rows)
	return r.old < r.now
}

// Add adds a row, which came in that round, no lower one than those ahead, and
// tells whether it is a new one.
func (r *Relation) Add(row Row, round int) bool {
	if r.Has(row) {
		return false
	}
	number := len(r.rows)
	r.rows = append(r.rows, row)
	r.rounds = append(r.rounds, round)
	for columns, by := range r.indexes {
		by.add(columns.of(row), number)
	}
	return true
}

// Has tells whether a row is there, were it added in this round.
func (r *Relation) Has(row Row) bool { return len(r.index(r.whole())[row]) > 0 }

// Rows hands out the rows of a span that have what a row has in these columns
// (that row has 0 in the others).
func (r *Relation) Rows(columns Columns, like Row, span Span) iter.Seq[Row] {
	return func(yield func(Row) bool) {
		for _, number := range cut(r.index(columns)[like], span) {
			if !yield(r.rows[number]) {
				return
			}
		}
	}
}

// cut answers those of rising numbers that are in a span.
func cut(numbers []int, span Span) []int {
	from, _ := slices.BinarySearch(numbers, span.from)
	to, _ := slices.BinarySearch(numbers, span.to)
	return numbers[from:to]
}

// Round answers the round in which a row came, if it is there.
func (r *Relation) Round(row Row) (int, bool) {
	numbers := r.index(r.whole())[row]
	if len(numbers) == 0 {
		return 0, false
	}
	return r.rounds[numbers[0]], true
}

// whole answers all columns.
func (r *Relation) whole() Columns { return 1<<r.arity - 1 }

// index answers the index by these columns, which is made when it is first asked
// for and kept up to date from then on.
func (r *Relation) index(columns Columns) index {
	made, known := r.indexes[columns]
	if known {
		return made
	}
	made = index{}
	for number, row := range r.rows {
		made.add(columns.of(row), number)
	}
	r.indexes[columns] = made
	return made
}
