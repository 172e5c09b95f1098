package tests

import (
	"fmt"
	"math"
	"math/big"
	"math/rand"
	"testing"

	"loop.example/g00561/impl"
)

const most = impl.Most

// rootOfMost: the greatest number whose product with itself is no more than Most.
const rootOfMost = 31622776

var allModes = []int64{impl.RdDown, impl.RdUp, impl.RdNear}

var noModes = []int64{-1, 3, 4, 100, most, most + 1, -most, math.MaxInt64, math.MinInt64}

var beyond = []int64{most + 1, -most - 1, 2 * most, -2 * most, 1 << 62, -1 << 62, math.MaxInt64, math.MinInt64, math.MaxInt64 - 1, math.MinInt64 + 1}

func number(n int64) impl.NumOut {
	return impl.NumOut{N: n}
}

func refused() impl.NumOut {
	return impl.NumOut{Code: impl.ErrForm}
}

func ranOver() impl.NumOut {
	return impl.NumOut{Code: impl.ErrOver}
}

// edges: numbers at which something may run over or be rounded, with both signs.
func edges() []int64 {
	out := []int64{0}
	for _, n := range []int64{1, 2, 3, 7, 10, 99, 100, 1 << 31, 1<<32 + 1, rootOfMost, rootOfMost + 1, most / 3, most/2 - 1, most / 2, most/2 + 1, most - 1, most} {
		out = append(out, n, -n)
	}
	return out
}

// someWithin: numbers from -Most to Most of all sizes, the same ones each time.
func someWithin(count int, seed int64) []int64 {
	r := rand.New(rand.NewSource(seed))
	out := make([]int64, count)
	for i := range out {
		out[i] = (int64(r.Uint64()) >> r.Intn(64)) % (most + 1)
	}
	return out
}

func within(n, low int64) bool {
	return n >= low && n <= most
}

// toldOf is what a face is to tell of what came out exactly.
func toldOf(exact *big.Int) impl.NumOut {
	if new(big.Int).Abs(exact).Cmp(big.NewInt(most)) > 0 {
		return ranOver()
	}
	return number(exact.Int64())
}

// roundedBig divides a by b, of b from 1 on, and rounds by the words of the document.
func roundedBig(a, b *big.Int, mode int64) *big.Int {
	down, left := new(big.Int).DivMod(a, b, new(big.Int))
	up := new(big.Int).Add(down, big.NewInt(1))
	twice := new(big.Int).Add(left, left)
	switch {
	case left.Sign() == 0, mode == impl.RdDown:
		return down
	case mode == impl.RdUp, twice.Cmp(b) >= 0:
		return up
	}
	return down
}

func TestFixConstants(t *testing.T) {
	same(t, "Most", impl.Most, 1000000000000000)
	same(t, "RdDown", impl.RdDown, 0)
	same(t, "RdUp", impl.RdUp, 1)
	same(t, "RdNear", impl.RdNear, 2)
}

type pairFace struct {
	name string
	face func(int64, int64) impl.NumOut
	sure func(z, a, b *big.Int) *big.Int
}

func pairFaces() []pairFace {
	return []pairFace{
		{"Plus", impl.Plus, (*big.Int).Add},
		{"Minus", impl.Minus, (*big.Int).Sub},
		{"Times", impl.Times, (*big.Int).Mul},
	}
}

func checkPair(t *testing.T, f pairFace, a, b int64) {
	t.Helper()
	want := refused()
	if within(a, -most) && within(b, -most) {
		want = toldOf(f.sure(new(big.Int), big.NewInt(a), big.NewInt(b)))
	}
	same(t, fmt.Sprintf("%s(%d, %d)", f.name, a, b), f.face(a, b), want)
}
