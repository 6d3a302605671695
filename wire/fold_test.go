package wire_test

import (
	"math"
	"testing"

	"deduce/wire"
)

func TestFold(t *testing.T) {
	for _, c := range []struct{ n, want int }{
		{0, 0},
		{1, 2},
		{-1, 1},
		{2, 4},
		{-2, 3},
		{-3, 5},
		{100, 200},
		{-100, 199},
		{1<<62 - 1, math.MaxInt - 1},
		{-1 << 62, math.MaxInt},
		{1 << 62, 0},
		{1<<62 + 1, 0},
		{-1<<62 - 1, 0},
		{-1<<62 - 2, 0},
		{math.MaxInt, 0},
		{math.MaxInt - 1, 0},
		{math.MinInt, 0},
		{math.MinInt + 1, 0},
	} {
		if got := wire.Fold(c.n); got != c.want {
			t.Errorf("Fold(%d) = %d, want %d", c.n, got, c.want)
		}
	}
}

func TestUnfold(t *testing.T) {
	for _, c := range []struct{ n, want int }{
		{0, 0},
		{1, -1},
		{2, 1},
		{3, -2},
		{4, 2},
		{5, -3},
		{1 << 62, 1 << 61},
		{math.MaxInt - 1, 1<<62 - 1},
		{math.MaxInt, -1 << 62},
		{-1, 0},
		{-2, 0},
		{-1 << 62, 0},
		{math.MinInt + 1, 0},
		{math.MinInt, 0},
	} {
		if got := wire.Unfold(c.n); got != c.want {
			t.Errorf("Unfold(%d) = %d, want %d", c.n, got, c.want)
		}
	}
}

func TestFoldThereAndBack(t *testing.T) {
	for _, n := range numbers() {
		if got := wire.Fold(wire.Unfold(n)); got != n {
			t.Errorf("Fold(Unfold(%d)) = %d", n, got)
		}
		if n >= 1<<62 {
			continue
		}
		for _, signed := range []int{n, -n, -n - 1} {
			if got := wire.Unfold(wire.Fold(signed)); got != signed {
				t.Errorf("Unfold(Fold(%d)) = %d", signed, got)
			}
		}
	}
}
