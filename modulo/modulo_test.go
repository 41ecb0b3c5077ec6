package modulo_test

import (
	"math"
	"testing"

	"withy/modulo"
)

// R5: a number modulo another one is 0 or more.
func TestOf(t *testing.T) {
	for _, c := range []struct{ n, m, want int }{
		{0, 3, 0}, {2, 3, 2}, {3, 3, 0}, {7, 3, 1}, {-1, 3, 2}, {-3, 3, 0}, {-4, 3, 2},
		{5, 1, 0}, {-5, 1, 0}, {5, 0, 0}, {5, -2, 0},
		{math.MaxInt, 2, 1}, {math.MinInt, 2, 0}, {math.MinInt, 3, 1}, {math.MinInt, math.MaxInt, math.MaxInt - 1},
	} {
		if got := modulo.Of(c.n, c.m); got != c.want {
			t.Errorf("Of(%d, %d) = %d, not %d", c.n, c.m, got, c.want)
		}
	}
}
