package tests

import (
	"fmt"
	"math"
	"math/big"
	"testing"

	"loop.example/g00561/impl"
)

func TestPromise3KnownSums(t *testing.T) {
	same(t, "2 + 3", impl.Plus(2, 3), number(5))
	same(t, "2 + -3", impl.Plus(2, -3), number(-1))
	same(t, "3 - 5", impl.Minus(3, 5), number(-2))
	same(t, "-3 - -5", impl.Minus(-3, -5), number(2))
	same(t, "-3 * 5", impl.Times(-3, 5), number(-15))
	same(t, "-3 * -5", impl.Times(-3, -5), number(15))
	same(t, "0 * -5", impl.Times(0, -5), number(0))
	same(t, "Most + 0", impl.Plus(most, 0), number(most))
	same(t, "-Most + 0", impl.Plus(0, -most), number(-most))
	same(t, "Most - Most", impl.Minus(most, most), number(0))
	same(t, "Most * -1", impl.Times(most, -1), number(-most))
	same(t, "Most * 0", impl.Times(most, 0), number(0))
}

func TestPromise3AtAndBeyondMost(t *testing.T) {
	same(t, "sum Most", impl.Plus(most-1, 1), number(most))
	same(t, "sum -Most", impl.Plus(1-most, -1), number(-most))
	same(t, "sum beyond Most", impl.Plus(most, 1), ranOver())
	same(t, "sum beyond -Most", impl.Plus(-most, -1), ranOver())
	same(t, "greatest sum", impl.Plus(most, most), ranOver())
	same(t, "least sum", impl.Plus(-most, -most), ranOver())
	same(t, "difference Most", impl.Minus(most-1, -1), number(most))
	same(t, "difference -Most", impl.Minus(1-most, 1), number(-most))
	same(t, "difference beyond Most", impl.Minus(most, -1), ranOver())
	same(t, "difference beyond -Most", impl.Minus(-most, 1), ranOver())
	same(t, "greatest difference", impl.Minus(most, -most), ranOver())
	for _, sign := range []int64{1, -1} {
		same(t, "product at Most", impl.Times(sign*10000000, 100000000), number(sign*most))
		same(t, "product at Most, turned round", impl.Times(100000000, sign*10000000), number(sign*most))
		same(t, "product one beyond Most", impl.Times(sign*7, 142857142857143), ranOver())
		same(t, "product just within", impl.Times(sign*rootOfMost, rootOfMost), number(sign*rootOfMost*rootOfMost))
		same(t, "product just beyond", impl.Times(sign*(rootOfMost+1), rootOfMost+1), ranOver())
		same(t, "twice the half of Most", impl.Times(sign*2, most/2), number(sign*most))
		same(t, "twice one more", impl.Times(sign*2, most/2+1), ranOver())
		same(t, "greatest product", impl.Times(sign*most, most), ranOver())
	}
	// Products that would come back into the bounds, if they ran over 64 bits.
	same(t, "2^64", impl.Times(1<<32, 1<<32), ranOver())
	same(t, "-2^64", impl.Times(-1<<32, 1<<32), ranOver())
	same(t, "2^63", impl.Times(1<<32, 1<<31), ranOver())
	same(t, "2^64 and 2^33 and 1", impl.Times(1<<32+1, 1<<32+1), ranOver())
}

func TestPromise3Exact(t *testing.T) {
	all := append(edges(), beyond...)
	for _, f := range pairFaces() {
		for _, a := range all {
			for _, b := range all {
				checkPair(t, f, a, b)
			}
		}
		left, right := someWithin(3000, 2), someWithin(3000, 3)
		for i := range left {
			checkPair(t, f, left[i], right[i])
		}
	}
}

func TestPromise3Refused(t *testing.T) {
	for _, f := range pairFaces() {
		for _, n := range beyond {
			for _, other := range append(edges(), beyond...) {
				same(t, fmt.Sprintf("%s(%d, %d)", f.name, n, other), f.face(n, other), refused())
				same(t, fmt.Sprintf("%s(%d, %d)", f.name, other, n), f.face(other, n), refused())
			}
		}
	}
	// Both faults hold: a number that is refused is named ahead of what comes out beyond.
	same(t, "Most and one, and Most", impl.Plus(most+1, most), refused())
	same(t, "the least less Most", impl.Minus(math.MinInt64, most), refused())
	same(t, "Most times the greatest", impl.Times(most, math.MaxInt64), refused())
	// What comes out would be within.
	same(t, "one beyond, less one", impl.Plus(most+1, -1), refused())
	same(t, "one beyond, times 0", impl.Times(most+1, 0), refused())
	same(t, "the least, less itself", impl.Minus(math.MinInt64, math.MinInt64), refused())
}

func TestPromise3TakenAwayAgain(t *testing.T) {
	left, right := append(edges(), someWithin(300, 4)...), append(edges(), someWithin(300, 5)...)
	came := 0
	for _, a := range left {
		for _, b := range right {
			sum := impl.Plus(a, b)
			if sum.Code != impl.OK {
				continue
			}
			came++
			same(t, fmt.Sprintf("%d and %d, less it", a, b), impl.Minus(sum.N, b), number(a))
			same(t, fmt.Sprintf("%d and %d, less the first", a, b), impl.Minus(sum.N, a), number(b))
		}
	}
	same(t, "most sums come out", came > len(left)*len(right)/2, true)
}

func TestPromise3KnownParts(t *testing.T) {
	known := []struct{ a, b, down, up, near int64 }{
		{0, 1, 0, 0, 0}, {0, 7, 0, 0, 0}, {0, most, 0, 0, 0},
		{6, 3, 2, 2, 2}, {-6, 3, -2, -2, -2}, {6, 2, 3, 3, 3}, {-6, 2, -3, -3, -3},
		{7, 3, 2, 3, 2}, {8, 3, 2, 3, 3}, {-7, 3, -3, -2, -2}, {-8, 3, -3, -2, -3},
		{7, 2, 3, 4, 4}, {-7, 2, -4, -3, -3}, {1, 2, 0, 1, 1}, {-1, 2, -1, 0, 0},
		{5, 10, 0, 1, 1}, {-5, 10, -1, 0, 0}, {4, 10, 0, 1, 0}, {-4, 10, -1, 0, 0}, {6, 10, 0, 1, 1}, {-6, 10, -1, 0, -1},
		{2, 5, 0, 1, 0}, {3, 5, 0, 1, 1}, {-2, 5, -1, 0, 0}, {-3, 5, -1, 0, -1},
		{1, most, 0, 1, 0}, {-1, most, -1, 0, 0}, {most / 2, most, 0, 1, 1}, {-most / 2, most, -1, 0, 0},
		{most/2 - 1, most, 0, 1, 0}, {-most/2 - 1, most, -1, 0, -1},
		{most, most, 1, 1, 1}, {-most, most, -1, -1, -1}, {most - 1, most, 0, 1, 1}, {1 - most, most, -1, 0, -1},
		{most, 1, most, most, most}, {-most, 1, -most, -most, -most}, {1, 1, 1, 1, 1}, {-1, 1, -1, -1, -1},
		{most, 2, most / 2, most / 2, most / 2}, {most - 1, 2, most/2 - 1, most / 2, most / 2}, {1 - most, 2, -most / 2, 1 - most/2, 1 - most/2},
	}
	for _, k := range known {
		what := fmt.Sprintf("%d divided by %d", k.a, k.b)
		same(t, what+", down", impl.Parts(k.a, k.b, impl.RdDown), number(k.down))
		same(t, what+", up", impl.Parts(k.a, k.b, impl.RdUp), number(k.up))
		same(t, what+", near", impl.Parts(k.a, k.b, impl.RdNear), number(k.near))
	}
}

func checkParts(t *testing.T, a, b int64) {
	t.Helper()
	down := impl.Parts(a, b, impl.RdDown)
	what := fmt.Sprintf("%d divided by %d", a, b)
	same(t, what+" comes out", down.Code, int64(impl.OK))
	left := a - down.N*b
	same(t, what+" leaves 0 or more, less than the divisor", left >= 0 && left < b, true)
	for _, mode := range allModes {
		want := roundedBig(big.NewInt(a), big.NewInt(b), mode).Int64()
		same(t, fmt.Sprintf("%s, mode %d", what, mode), impl.Parts(a, b, mode), number(want))
	}
}

func TestPromise3PartsBack(t *testing.T) {
	for _, a := range append(edges(), someWithin(200, 6)...) {
		for _, b := range append(edges(), someWithin(200, 7)...) {
			if b >= 1 {
				checkParts(t, a, b)
			}
		}
	}
	for a := int64(-60); a <= 60; a++ {
		for b := int64(1); b <= 25; b++ {
			checkParts(t, a, b)
		}
	}
}

func TestPromise3PartsRefused(t *testing.T) {
	for _, mode := range append(allModes, noModes...) {
		for _, a := range append(edges(), beyond...) {
			for _, b := range []int64{0, -1, -2, -most, -most - 1, most + 1, math.MinInt64, math.MaxInt64} {
				same(t, fmt.Sprintf("Parts(%d, %d, %d)", a, b, mode), impl.Parts(a, b, mode), refused())
			}
		}
		for _, a := range beyond {
			for _, b := range []int64{1, 2, most} {
				same(t, fmt.Sprintf("Parts(%d, %d, %d)", a, b, mode), impl.Parts(a, b, mode), refused())
			}
		}
	}
	for _, mode := range noModes {
		for _, a := range edges() {
			for _, b := range []int64{1, 2, most} {
				same(t, fmt.Sprintf("Parts(%d, %d, %d)", a, b, mode), impl.Parts(a, b, mode), refused())
			}
		}
	}
}
