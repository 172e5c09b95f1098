package tests

import (
	"fmt"
	"math"
	"math/big"
	"testing"

	"loop.example/g00561/impl"
)

func ratioBig(a, b, c, d int64) int64 {
	if !within(a, 0) || !within(b, 1) || !within(c, 0) || !within(d, 1) {
		return 0
	}
	return int64(big.NewRat(a, b).Cmp(big.NewRat(c, d)))
}

// checkRatio looks at it turned round, too.
func checkRatio(t *testing.T, a, b, c, d, want int64) {
	t.Helper()
	same(t, fmt.Sprintf("Ratio(%d, %d, %d, %d)", a, b, c, d), impl.Ratio(a, b, c, d), want)
	same(t, fmt.Sprintf("Ratio(%d, %d, %d, %d)", c, d, a, b), impl.Ratio(c, d, a, b), -want)
}

func TestPromise5Known(t *testing.T) {
	known := []struct{ a, b, c, d, want int64 }{
		{1, 3, 2, 6, 0}, {1, 3, 1, 2, -1}, {1, 2, 1, 3, 1}, {2, 3, 3, 4, -1}, {0, 1, 0, 1, 0}, {0, 5, 0, 7, 0}, {0, 1, 1, most, -1},
		{1, 1, 1, 1, 0}, {5, 1, 4, 1, 1}, {7, 7, most, most, 0}, {most, 1, most, 1, 0}, {most, 1, most - 1, 1, 1},
		{most, most - 1, most - 1, most - 2, -1}, {most - 1, most, most - 2, most - 1, 1}, {most, most, most - 1, most - 1, 0},
		{most, 1, 1, most, 1}, {0, most, 1, most, -1}, {most, 2, most / 2, 1, 0}, {most, 3, most / 3, 1, 1},
		// The products are 2^64 and 0, 2^64 and 1, 2^65 and 2^64: cut to 64 bits they would tell something else.
		{1 << 32, 1, 0, 1 << 32, 1}, {1 << 32, 1, 1, 1 << 32, 1}, {1 << 33, 1 << 32, 1, 1, 1}, {1 << 32, 1, 1 << 31, 1 << 32, 1},
	}
	for _, k := range known {
		checkRatio(t, k.a, k.b, k.c, k.d, k.want)
	}
}

func TestPromise5MultipliedByTheSame(t *testing.T) {
	parts := [][4]int64{{1, 3, 2, 6}, {1, 3, 1, 2}, {2, 3, 3, 4}, {0, 1, 0, 5}, {0, 1, 1, 9}, {9, 10, 8, 9}, {97, 89, 12, 11}, {1, 1, 1000, 999}}
	for _, p := range parts {
		want := ratioBig(p[0], p[1], p[2], p[3])
		for _, by := range []int64{1, 2, 3, 7, 1000, 1 << 20, 31622777, most / 1000} {
			checkRatio(t, by*p[0], by*p[1], p[2], p[3], want)
			checkRatio(t, p[0], p[1], by*p[2], by*p[3], want)
			checkRatio(t, by*p[0], by*p[1], by*p[2], by*p[3], want)
			checkRatio(t, by*p[0], p[1], by*p[2], p[3], want)
			checkRatio(t, p[0], by*p[1], p[2], by*p[3], want)
		}
	}
}

func TestPromise5Exact(t *testing.T) {
	few := []int64{0, 1, 2, 3, 1 << 32, rootOfMost, most / 2, most - 1, most, -1, most + 1}
	for _, a := range few {
		for _, b := range few {
			for _, c := range few {
				for _, d := range few {
					checkRatio(t, a, b, c, d, ratioBig(a, b, c, d))
				}
			}
		}
	}
	n := someWithin(20000, 15)
	for i := 0; i+3 < len(n); i += 4 {
		a, b, c, d := max(n[i], -n[i]), max(n[i+1], 1-n[i+1]), max(n[i+2], -n[i+2]), max(n[i+3], 1-n[i+3])
		checkRatio(t, a, b, c, d, ratioBig(a, b, c, d))
		checkRatio(t, n[i], n[i+1], n[i+2], n[i+3], ratioBig(n[i], n[i+1], n[i+2], n[i+3]))
		// Parts that are nearly the same, with products of 100 bits.
		checkRatio(t, most-a%1000, most-b%1000, most-c%1000, most-d%1000, ratioBig(most-a%1000, most-b%1000, most-c%1000, most-d%1000))
	}
}

func TestPromise5Refused(t *testing.T) {
	for _, n := range append([]int64{-1, -2, -most}, beyond...) {
		same(t, fmt.Sprintf("a %d", n), impl.Ratio(n, 1, 1, 1), 0)
		same(t, fmt.Sprintf("a %d, of more", n), impl.Ratio(n, 1, 0, 1), 0)
		same(t, fmt.Sprintf("b %d", n), impl.Ratio(1, n, 2, 1), 0)
		same(t, fmt.Sprintf("b %d, of more", n), impl.Ratio(1, n, 0, 1), 0)
		same(t, fmt.Sprintf("c %d", n), impl.Ratio(1, 1, n, 1), 0)
		same(t, fmt.Sprintf("c %d, of less", n), impl.Ratio(0, 1, n, 1), 0)
		same(t, fmt.Sprintf("d %d", n), impl.Ratio(2, 1, 1, n), 0)
		same(t, fmt.Sprintf("d %d, of less", n), impl.Ratio(0, 1, 1, n), 0)
	}
	for _, n := range []int64{0, 1, most} {
		same(t, "b 0", impl.Ratio(n, 0, 1, 3), 0)
		same(t, "d 0", impl.Ratio(1, 3, n, 0), 0)
	}
	same(t, "all the least", impl.Ratio(math.MinInt64, math.MinInt64, math.MinInt64, math.MinInt64), 0)
}

func TestClampKnown(t *testing.T) {
	known := []struct{ n, low, high, want int64 }{
		{0, 1, 5, 1}, {1, 1, 5, 1}, {2, 1, 5, 2}, {3, 1, 5, 3}, {5, 1, 5, 5}, {6, 1, 5, 5}, {9, 1, 5, 5}, {-9, 1, 5, 1}, {-3, -5, -1, -3},
		{4, 4, 4, 4}, {3, 4, 4, 4}, {5, 4, 4, 4},
		// Of low above high: low for what is less than it, high for all else.
		{0, 5, 1, 5}, {1, 5, 1, 5}, {3, 5, 1, 5}, {4, 5, 1, 5}, {5, 5, 1, 1}, {6, 5, 1, 1}, {9, 5, 1, 1},
		{math.MinInt64, math.MaxInt64, math.MinInt64, math.MaxInt64}, {math.MaxInt64, math.MaxInt64, math.MinInt64, math.MinInt64},
		{most + 1, -most, most, most}, {-most - 1, -most, most, -most}, {most + 5, 0, most + 9, most + 5},
		{math.MaxInt64, math.MinInt64, math.MaxInt64, math.MaxInt64}, {math.MinInt64, math.MinInt64, math.MaxInt64, math.MinInt64},
		{math.MaxInt64, -1, 1, 1}, {math.MinInt64, -1, 1, -1}, {0, math.MinInt64, math.MaxInt64, 0},
		{0, math.MaxInt64, math.MaxInt64, math.MaxInt64}, {0, math.MinInt64, math.MinInt64, math.MinInt64},
	}
	for _, k := range known {
		same(t, fmt.Sprintf("Clamp(%d, %d, %d)", k.n, k.low, k.high), impl.Clamp(k.n, k.low, k.high), k.want)
	}
}

func TestClampAny(t *testing.T) {
	n := append(someNums(), append(edges(), beyond...)...)
	for i := 0; i+2 < len(n); i++ {
		low, high := min(n[i+1], n[i+2]), max(n[i+1], n[i+2])
		what := fmt.Sprintf("Clamp(%d, %d, %d)", n[i], low, high)
		got := impl.Clamp(n[i], low, high)
		same(t, what, got, min(max(n[i], low), high))
		same(t, what+" again", impl.Clamp(got, low, high), got)
	}
}
