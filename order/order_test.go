package order_test

import (
	"reflect"
	"testing"

	"deduce/order"
)

func rows() [][]string {
	return [][]string{{"b"}, {"a", "b"}, {"a"}, nil, {"a", "a"}, {"b"}, {""}, {"a"}, {"B"}, {"\xff"}, {}}
}

func TestOrder(t *testing.T) {
	want := [][]string{nil, {""}, {"B"}, {"a"}, {"a", "a"}, {"a", "b"}, {"b"}, {"\xff"}}
	for name, put := range map[string]func([][]string) [][]string{"Rising": order.Rising, "Settle": order.Settle} {
		if got := put(rows()); !same(got, want) {
			t.Errorf("%s: %q, want %q", name, got, want)
		}
		if got := put(nil); len(got) != 0 {
			t.Errorf("%s of nothing: %q", name, got)
		}
	}
}

// same holds rows against each other; one without texts may be nil.
func same(a, b [][]string) bool {
	if len(a) != len(b) {
		return false
	}
	for i := range a {
		if len(a[i])+len(b[i]) > 0 && !reflect.DeepEqual(a[i], b[i]) {
			return false
		}
	}
	return true
}

// Rising leaves alone what it is handed, and answers memory of its own.
func TestRisingIsNew(t *testing.T) {
	list := rows()
	risen := order.Rising(list)
	if !reflect.DeepEqual(list, rows()) {
		t.Errorf("what was handed in is now %q", list)
	}
	for _, row := range risen {
		for i := range row {
			row[i] = "spoiled"
		}
	}
	if !reflect.DeepEqual(list, rows()) {
		t.Errorf("the answer shares memory: %q", list)
	}
}
