package tests

import (
	"fmt"
	"math"
	"slices"
	"testing"

	"loop.example/g00561/impl"
)

func TestExprConstants(t *testing.T) {
	for i, op := range []int64{impl.ExNum, impl.ExField, impl.ExPlus, impl.ExMinus, impl.ExTimes, impl.ExSame, impl.ExBelow, impl.ExAtMost, impl.ExAnd, impl.ExOr, impl.ExNot, impl.ExHas, impl.ExKnown} {
		same(t, "an op", op, int64(i+1))
	}
	same(t, "MaxParts", impl.MaxParts, 20)
	same(t, "MaxDeep", impl.MaxDeep, 6)
}

func checkRight(t *testing.T, what string, x []impl.Part, right, truth bool) {
	t.Helper()
	same(t, what+": ExprRight", impl.ExprRight(x), right)
	same(t, what+": ExprTruth", impl.ExprTruth(x), right && truth)
}

func TestPromise7Right(t *testing.T) {
	all := rightNodes()
	same(t, "many are right", len(all) > 400, true)
	for _, n := range all {
		checkRight(t, n.text(), n.parts(), true, isTruthOp(n.part.Op))
	}
	for _, x := range wrongLists() {
		checkRight(t, shown(x), x, false, false)
	}
}

func TestPromise7RightOps(t *testing.T) {
	for op := int64(-300); op <= 300; op++ {
		// ExField, ExHas and ExKnown lack their names here.
		checkRight(t, fmt.Sprintf("op %d alone", op), []impl.Part{{Op: op}}, op == impl.ExNum, false)
		checkRight(t, fmt.Sprintf("op %d, a name", op), []impl.Part{{Op: op, Name: "a"}}, op == impl.ExField || op == impl.ExKnown, op == impl.ExKnown)
		checkRight(t, fmt.Sprintf("op %d, a name and 1", op), []impl.Part{{Op: op, Name: "a", N: 1}}, op == impl.ExHas, true)
	}
	for _, op := range noOps {
		checkRight(t, fmt.Sprintf("op %d", op), []impl.Part{{Op: op}}, false, false)
		checkRight(t, fmt.Sprintf("op %d of one", op), []impl.Part{{Op: op}, known("a").part}, false, false)
		checkRight(t, fmt.Sprintf("op %d of two", op), []impl.Part{{Op: op}, num(1).part, num(1).part}, false, false)
		checkRight(t, fmt.Sprintf("op %d in a truth", op), []impl.Part{{Op: impl.ExNot}, {Op: op}}, false, false)
		checkRight(t, fmt.Sprintf("op %d behind all", op), []impl.Part{num(1).part, {Op: op}}, false, false)
	}
}

func TestPromise7RightNumbers(t *testing.T) {
	for _, n := range []int64{mostNum, -mostNum, mostNum - 1, 1 - mostNum, 0, 1, -1} {
		checkRight(t, fmt.Sprint(n), num(n).parts(), true, false)
	}
	for _, n := range []int64{mostNum + 1, -mostNum - 1, math.MaxInt64, math.MinInt64, 1 << 32} {
		checkRight(t, fmt.Sprint(n), num(n).parts(), false, false)
		checkRight(t, fmt.Sprint("below ", n), two(impl.ExBelow, num(1), num(n)).parts(), false, false)
	}
	for code := int64(-300); code <= 300; code++ {
		checkRight(t, fmt.Sprintf("has %d", code), has("a", code).parts(), code >= 1 && code <= 20, true)
	}
	for _, code := range []int64{math.MaxInt64, math.MinInt64, 1<<32 + 1} {
		checkRight(t, fmt.Sprintf("has %d", code), has("a", code).parts(), false, false)
	}
}

func TestPromise7RightNames(t *testing.T) {
	for _, name := range names {
		checkRight(t, name, field(name).parts(), true, false)
		checkRight(t, "has "+name, has(name, 1).parts(), true, true)
		checkRight(t, "known "+name, known(name).parts(), true, true)
	}
	for _, name := range notNames {
		checkRight(t, shown(name), field(name).parts(), false, false)
		checkRight(t, "has "+shown(name), has(name, 1).parts(), false, false)
		checkRight(t, "known "+shown(name), known(name).parts(), false, false)
	}
	for b := range 256 {
		one := string([]byte{byte(b)})
		lower := b >= 'a' && b <= 'z'
		other := b == '_' || b >= '0' && b <= '9'
		checkRight(t, fmt.Sprintf("%q", one), field(one).parts(), lower, false)
		checkRight(t, fmt.Sprintf("%q behind a letter", one), known("a"+one).parts(), lower || other, true)
	}
}

func TestPromise7RightPlaces(t *testing.T) {
	for _, first := range eachOp() {
		checkRight(t, "! "+first.text(), not(first).parts(), isTruthOp(first.part.Op), true)
		for _, second := range eachOp() {
			for _, op := range opsOfTwo {
				n := two(op, first, second)
				right := isTruthOp(first.part.Op) == takesTruths(op) && isTruthOp(second.part.Op) == takesTruths(op)
				checkRight(t, n.text(), n.parts(), right, isTruthOp(op))
			}
		}
	}
}

func TestPromise7RightLimits(t *testing.T) {
	sizes, depths := map[int]int{}, map[int]int{}
	for _, n := range atLimits() {
		parts := n.parts()
		sizes[len(parts)]++
		depths[n.deep()]++
		checkRight(t, n.text(), parts, len(parts) <= 20 && n.deep() <= 6, isTruthOp(n.part.Op))
	}
	for _, size := range []int{19, 20, 21} {
		same(t, fmt.Sprintf("there are some of %d Parts", size), sizes[size] > 0, true)
	}
	for _, deep := range []int{6, 7} {
		same(t, fmt.Sprintf("there are some %d deep", deep), depths[deep] > 0, true)
	}
}

// fromBehind tells whether a list is right but for its Parts: what each holds is found by going through it from its end.
func fromBehind(x []impl.Part) bool {
	var stack []node
	for _, p := range slices.Backward(x) {
		count := 2
		switch p.Op {
		case impl.ExNum, impl.ExField, impl.ExHas, impl.ExKnown:
			count = 0
		case impl.ExNot:
			count = 1
		}
		if len(stack) < count {
			return false
		}
		n := node{part: p}
		for range count {
			n.in = append(n.in, stack[len(stack)-1])
			stack = stack[:len(stack)-1]
		}
		stack = append(stack, n)
	}
	return len(stack) == 1 && stack[0].right()
}

// TestPromise7AllShort goes through every list of up to seven of these Parts.
func TestPromise7AllShort(t *testing.T) {
	kinds := []impl.Part{num(3).part, field("a").part, {Op: impl.ExPlus}, {Op: impl.ExBelow}, {Op: impl.ExOr}, {Op: impl.ExNot}, known("b").part}
	x := make([]impl.Part, 0, 7)
	count := 0
	var all func()
	all = func() {
		right := fromBehind(x)
		if impl.ExprRight(x) != right || impl.ExprTruth(x) != (right && isTruthOp(x[0].Op)) {
			t.Errorf("%v: right is %v", x, right)
		}
		if right {
			count++
			back := impl.ExprRead(impl.ExprText(x))
			if back.Code != impl.OK || !slices.Equal(back.Expr, x) {
				t.Errorf("%v comes back as %v", x, back)
			}
		} else if impl.ExprText(x) != "" {
			t.Errorf("%v has a text", x)
		}
		if len(x) == cap(x) || t.Failed() {
			return
		}
		for _, p := range kinds {
			x = append(x, p)
			all()
			x = x[:len(x)-1]
		}
	}
	all()
	same(t, "many are right", count > 400, true)
}
