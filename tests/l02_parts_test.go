package tests

import (
	"fmt"
	"math"
	"math/big"
	"testing"

	"loop.example/g00561/impl"
)

// timesPartsBig is what TimesParts is to tell, reckoned with numbers that have room for all of it.
func timesPartsBig(a, b, c, mode int64) impl.NumOut {
	if !within(a, 0) || !within(b, 0) || !within(c, 1) || mode < impl.RdDown || mode > impl.RdNear {
		return refused()
	}
	product := new(big.Int).Mul(big.NewInt(a), big.NewInt(b))
	return toldOf(roundedBig(product, big.NewInt(c), mode))
}

func checkTimesParts(t *testing.T, a, b, c, mode int64) {
	t.Helper()
	what := fmt.Sprintf("TimesParts(%d, %d, %d, %d)", a, b, c, mode)
	same(t, what, impl.TimesParts(a, b, c, mode), timesPartsBig(a, b, c, mode))
}

func TestPromise4AsTheProductInParts(t *testing.T) {
	left, right, below := someWithin(4000, 8), someWithin(4000, 9), someWithin(4000, 10)
	came := 0
	for i := range left {
		for _, mode := range allModes {
			product := impl.Times(left[i], right[i])
			if left[i] < 0 || right[i] < 0 || below[i] < 1 || product.Code != impl.OK {
				continue
			}
			came++
			want := impl.Parts(product.N, below[i], mode)
			same(t, "the product comes out in parts", want.Code, int64(impl.OK))
			what := fmt.Sprintf("TimesParts(%d, %d, %d, %d)", left[i], right[i], below[i], mode)
			same(t, what, impl.TimesParts(left[i], right[i], below[i], mode), want)
		}
	}
	same(t, "products come out", came > 300, true)
	for a := range int64(20) {
		for b := range int64(20) {
			for c := int64(1); c <= 20; c++ {
				for _, mode := range allModes {
					want := impl.Parts(a*b, c, mode)
					same(t, fmt.Sprintf("TimesParts(%d, %d, %d, %d)", a, b, c, mode), impl.TimesParts(a, b, c, mode), want)
				}
			}
		}
	}
}

func TestPromise4Known(t *testing.T) {
	known := []struct{ a, b, c, down, up, near int64 }{
		{0, 0, 1, 0, 0, 0}, {0, most, most, 0, 0, 0}, {most, 0, 1, 0, 0, 0},
		{7, 5, 3, 11, 12, 12}, {7, 1, 2, 3, 4, 4}, {5, 5, 10, 2, 3, 3}, {4, 6, 10, 2, 3, 2}, {2, 13, 10, 2, 3, 3},
		{most, most, most, most, most, most}, {most, most - 1, most, most - 1, most - 1, most - 1},
		{most, 1, 1, most, most, most}, {1, most, 1, most, most, most}, {most, 2, 2, most, most, most},
		{most - 1, most - 1, most, most - 2, most - 1, most - 2},
		{1, 1, most, 0, 1, 0}, {1, most / 2, most, 0, 1, 1}, {1, most/2 - 1, most, 0, 1, 0},
	}
	for _, k := range known {
		what := fmt.Sprintf("%d times %d divided by %d", k.a, k.b, k.c)
		same(t, what+", down", impl.TimesParts(k.a, k.b, k.c, impl.RdDown), number(k.down))
		same(t, what+", up", impl.TimesParts(k.a, k.b, k.c, impl.RdUp), number(k.up))
		same(t, what+", near", impl.TimesParts(k.a, k.b, k.c, impl.RdNear), number(k.near))
	}
}

// Between Most and one more the way of rounding tells whether it runs over.
func TestPromise4OverByRounding(t *testing.T) {
	known := []struct {
		what    string
		a, b, c int64
		near    impl.NumOut
	}{
		{"a third more", 29, 103448275862069, 3, number(most)},
		{"a half more", 3, 666666666666667, 2, ranOver()},
		{"three quarters more", 17, 235294117647059, 4, ranOver()},
		{"a small part more", most - 1, most - 1, most - 2, number(most)},
		{"a half more, of great numbers", most - 1, 666666666666667, 666666666666666, ranOver()},
	}
	for _, k := range known {
		same(t, k.what+", down", impl.TimesParts(k.a, k.b, k.c, impl.RdDown), number(most))
		same(t, k.what+", up", impl.TimesParts(k.a, k.b, k.c, impl.RdUp), ranOver())
		same(t, k.what+", near", impl.TimesParts(k.a, k.b, k.c, impl.RdNear), k.near)
		same(t, k.what+", turned round", impl.TimesParts(k.b, k.a, k.c, impl.RdNear), k.near)
	}
}

func TestPromise4Over(t *testing.T) {
	known := []struct{ a, b, c int64 }{
		{most, 2, 1}, {2, most, 1}, {most/2 + 1, 2, 1}, {7, 142857142857143, 1}, {most, most, 1}, {most, most, most - 1}, {most, most, 2},
		// 2^63, 2^64 and 2^64 times as much: cut to 64 bits they would be within.
		{1 << 32, 1 << 31, 1}, {1 << 32, 1 << 32, 1}, {1 << 49, 1 << 15, 1}, {1 << 49, 1 << 49, 1 << 34}, {1 << 49, 1 << 49, 1 << 35}, {1 << 49, 1 << 49, 1<<34 + 1},
		// 3/14 more than 2^64 less 1: one up would be 0.
		{260943, 989696665677691, 14},
	}
	for _, k := range known {
		for _, mode := range allModes {
			same(t, fmt.Sprintf("TimesParts(%d, %d, %d, %d)", k.a, k.b, k.c, mode), impl.TimesParts(k.a, k.b, k.c, mode), ranOver())
		}
	}
}

func TestPromise4Exact(t *testing.T) {
	all := append(edges(), beyond...)
	modes := append([]int64{-1, 3}, allModes...)
	for _, a := range all {
		for _, b := range all {
			for _, c := range all {
				for _, mode := range modes {
					checkTimesParts(t, a, b, c, mode)
				}
			}
		}
	}
	left, right, below := someWithin(5000, 11), someWithin(5000, 12), someWithin(5000, 13)
	for i := range left {
		for _, mode := range allModes {
			checkTimesParts(t, left[i], right[i], below[i], mode)
			checkTimesParts(t, max(left[i], -left[i]), max(right[i], -right[i]), max(below[i], 1-below[i]), mode)
		}
	}
}

func TestPromise4Refused(t *testing.T) {
	wrong := append([]int64{-1, -2, -most}, beyond...)
	for _, n := range wrong {
		for _, mode := range append(allModes, noModes...) {
			same(t, fmt.Sprintf("a %d", n), impl.TimesParts(n, 1, 1, mode), refused())
			same(t, fmt.Sprintf("b %d", n), impl.TimesParts(1, n, 1, mode), refused())
			same(t, fmt.Sprintf("c %d", n), impl.TimesParts(1, 1, n, mode), refused())
			same(t, fmt.Sprintf("c %d, of what runs over", n), impl.TimesParts(most, most, n, mode), refused())
			same(t, fmt.Sprintf("a %d, of nothing", n), impl.TimesParts(n, 0, 1, mode), refused())
			same(t, fmt.Sprintf("a and b %d", n), impl.TimesParts(n, n, 1, mode), refused())
		}
	}
	same(t, "c 0", impl.TimesParts(1, 1, 0, impl.RdDown), refused())
	same(t, "c 0, of nothing", impl.TimesParts(0, 0, 0, impl.RdDown), refused())
	for _, mode := range noModes {
		same(t, fmt.Sprintf("mode %d", mode), impl.TimesParts(1, 1, 1, mode), refused())
		same(t, fmt.Sprintf("mode %d, of what runs over", mode), impl.TimesParts(most, most, 1, mode), refused())
	}
}

func TestPromise4Percent(t *testing.T) {
	known := []struct{ n, percent, want int64 }{
		{0, 0, 0}, {0, 100, 0}, {0, 1000, 0}, {50, 25, 13}, {50, 0, 0}, {50, 100, 50}, {50, 1000, 500}, {1, 50, 1}, {1, 49, 0}, {3, 50, 2},
		{most, 0, 0}, {most, 1, most / 100}, {most, 99, most / 100 * 99}, {most, 100, most}, {most - 1, 50, most / 2},
		{most / 10, 1000, most}, {most / 10, 999, most / 1000 * 999}, {1, 1000, 10}, {199, 1, 2}, {149, 1, 1}, {150, 1, 2},
		{990099009900990, 101, most},
	}
	for _, k := range known {
		same(t, fmt.Sprintf("%d percent of %d", k.percent, k.n), impl.Percent(k.n, k.percent), number(k.want))
	}
	for _, k := range known {
		same(t, fmt.Sprintf("%d percent of %d, in parts", k.percent, k.n), impl.Percent(k.n, k.percent), impl.TimesParts(k.n, k.percent, 100, impl.RdNear))
	}
	over := []struct{ n, percent int64 }{{most, 101}, {most, 1000}, {most/10 + 1, 1000}, {most/2 + 1, 200}, {990099009900991, 101}}
	for _, k := range over {
		same(t, fmt.Sprintf("%d percent of %d", k.percent, k.n), impl.Percent(k.n, k.percent), ranOver())
	}
	for percent := int64(0); percent <= 1000; percent++ {
		for _, n := range []int64{0, 1, 49, 50, 51, 12345, most / 10, most} {
			same(t, fmt.Sprintf("%d percent of %d", percent, n), impl.Percent(n, percent), timesPartsBig(n, percent, 100, impl.RdNear))
		}
	}
}

func TestPromise4PercentRefused(t *testing.T) {
	for _, percent := range append([]int64{-1, 1001, 1002, -100, most}, beyond...) {
		for _, n := range append([]int64{0, 1, 50, most, -1, -most}, beyond...) {
			same(t, fmt.Sprintf("%d percent of %d", percent, n), impl.Percent(n, percent), refused())
		}
	}
	for _, n := range append([]int64{-1, -50, -most}, beyond...) {
		for _, percent := range []int64{0, 1, 100, 1000} {
			same(t, fmt.Sprintf("%d percent of %d", percent, n), impl.Percent(n, percent), refused())
		}
	}
}

func checkRoot(t *testing.T, n int64) {
	t.Helper()
	want := new(big.Int).Sqrt(big.NewInt(n)).Int64()
	same(t, fmt.Sprintf("Root(%d)", n), impl.Root(n), number(want))
}

func TestPromise4Root(t *testing.T) {
	known := [][2]int64{{0, 0}, {1, 1}, {2, 1}, {3, 1}, {4, 2}, {8, 2}, {9, 3}, {15, 3}, {16, 4}, {17, 4}, {99, 9}, {100, 10}, {most, rootOfMost}, {most - 1, rootOfMost}, {rootOfMost * rootOfMost, rootOfMost}, {rootOfMost*rootOfMost - 1, rootOfMost - 1}, {100000000000000, 10000000}, {99999999999999, 9999999}}
	for _, k := range known {
		same(t, fmt.Sprintf("Root(%d)", k[0]), impl.Root(k[0]), number(k[1]))
	}
	for n := range int64(5000) {
		checkRoot(t, n)
	}
	for i := int64(1); i <= rootOfMost; i += 1 + i/50 {
		same(t, fmt.Sprintf("square of %d", i), impl.Root(i*i), number(i))
		same(t, fmt.Sprintf("below the square of %d", i), impl.Root(i*i-1), number(i-1))
		same(t, fmt.Sprintf("above the square of %d", i), impl.Root(i*i+1), number(i))
	}
	for _, n := range someWithin(3000, 14) {
		checkRoot(t, max(n, -n))
	}
	for bit := range 25 {
		p := int64(1) << bit
		same(t, fmt.Sprintf("square of 2^%d", bit), impl.Root(p*p), number(p))
		same(t, fmt.Sprintf("square of 2^%d less 1", bit), impl.Root((p-1)*(p-1)), number(p-1))
	}
}

func TestPromise4RootRefused(t *testing.T) {
	for _, n := range append([]int64{-1, -2, -4, -most, math.MinInt64}, beyond...) {
		same(t, fmt.Sprintf("Root(%d)", n), impl.Root(n), refused())
	}
}
