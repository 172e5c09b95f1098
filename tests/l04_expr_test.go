package tests

import (
	"fmt"
	"math"
	"math/rand"
	"slices"
	"strings"

	"loop.example/g00561/impl"
)

const mostNum = 1000000

var noOps = []int64{0, -1, -2, -13, 14, 15, 100, 256, 257, 1 << 32, 1<<32 + 1, 1<<32 + 13, math.MinInt64, math.MinInt64 + 1, math.MaxInt64, math.MaxInt64 - 1}

var notNames = []string{"", "aaaaaaaaaaaaaaaaaaaaa", strings.Repeat("a", 400), "1", "1a", "_", "_a", "A", "aB", "Age", "a-b", "a b", " a", "a ", "a\x00", "\x7f", "\x80", "a\xff", "ä", "aé", "a(", "a,1", "a)"}

var names = []string{"a", "z", "age", "a_", "a9", "a_9z", "has", "known", "hash", "has_1", "knowns", "known_x", "dk", "x23456789_123456789y", "aaaaaaaaaaaaaaaaaaaa"}

// node is an expression as a tree; what the document says of one is said here by itself, not by the program.
type node struct {
	part impl.Part
	in   []node
}

func num(n int64) node {
	return node{part: impl.Part{Op: impl.ExNum, N: n}}
}

func field(name string) node {
	return node{part: impl.Part{Op: impl.ExField, Name: name}}
}

func has(name string, code int64) node {
	return node{part: impl.Part{Op: impl.ExHas, Name: name, N: code}}
}

func known(name string) node {
	return node{part: impl.Part{Op: impl.ExKnown, Name: name}}
}

func not(in node) node {
	return node{part: impl.Part{Op: impl.ExNot}, in: []node{in}}
}

func two(op int64, first, second node) node {
	return node{part: impl.Part{Op: op}, in: []node{first, second}}
}

// opsOfTwo are in the order of their numbers, and so are signsOfTwo.
var opsOfTwo = []int64{impl.ExPlus, impl.ExMinus, impl.ExTimes, impl.ExSame, impl.ExBelow, impl.ExAtMost, impl.ExAnd, impl.ExOr}

var signsOfTwo = []string{"+", "-", "*", "=", "<", "<=", "&", "|"}

func isTruthOp(op int64) bool {
	return op >= impl.ExSame
}

func takesTruths(op int64) bool {
	return op == impl.ExAnd || op == impl.ExOr || op == impl.ExNot
}

func (n node) parts() []impl.Part {
	out := []impl.Part{n.part}
	for _, in := range n.in {
		out = append(out, in.parts()...)
	}
	return out
}

func (n node) text() string {
	switch p := n.part; p.Op {
	case impl.ExNum:
		return fmt.Sprint(p.N)
	case impl.ExField:
		return p.Name
	case impl.ExHas:
		return fmt.Sprintf("has(%s,%d)", p.Name, p.N)
	case impl.ExKnown:
		return fmt.Sprintf("known(%s)", p.Name)
	case impl.ExNot:
		return "!" + n.in[0].text()
	}
	sign := signsOfTwo[slices.Index(opsOfTwo, n.part.Op)]
	return "(" + n.in[0].text() + " " + sign + " " + n.in[1].text() + ")"
}

func (n node) fields() []string {
	var out []string
	for _, p := range n.parts() {
		if p.Name != "" && !slices.Contains(out, p.Name) {
			out = append(out, p.Name)
		}
	}
	slices.Sort(out)
	return out
}

func (n node) deep() int {
	most := 0
	for _, in := range n.in {
		most = max(most, in.deep())
	}
	return most + 1
}

// wellMade looks for all but the limits.
func (n node) wellMade() bool {
	for _, in := range n.in {
		if !in.wellMade() || isTruthOp(in.part.Op) != takesTruths(n.part.Op) {
			return false
		}
	}
	return true
}

func (n node) right() bool {
	return n.wellMade() && n.deep() <= 6 && len(n.parts()) <= 20
}

func leaf(truth bool) node {
	if truth {
		return known("b")
	}
	return num(7)
}

// chain is so deep, by one op, in the first or the second of its two; what lies beside it is a leaf.
func chain(op int64, deep int, second bool) node {
	out := leaf(takesTruths(op))
	if isTruthOp(op) && !takesTruths(op) {
		// Such an op can stand at the head alone: what is in it are sums.
		out = chain(impl.ExPlus, deep-1, second)
		deep = 2
	}
	for range deep - 1 {
		switch {
		case op == impl.ExNot:
			out = not(out)
		case second:
			out = two(op, leaf(takesTruths(op)), out)
		default:
			out = two(op, out, leaf(takesTruths(op)))
		}
	}
	return out
}

// balanced has so many leaves, and is as flat as may be; of ExSame and its like at the head alone.
func balanced(op int64, leaves int) node {
	if leaves == 1 {
		return leaf(takesTruths(op))
	}
	in := op
	if isTruthOp(op) && !takesTruths(op) {
		in = impl.ExTimes
	}
	return two(op, balanced(in, leaves/2), balanced(in, leaves-leaves/2))
}

// eachOp has every op once, with the simplest of what it asks for.
func eachOp() []node {
	out := []node{num(0), field("a"), not(known("a")), has("a", 1), known("a")}
	for _, op := range opsOfTwo {
		out = append(out, two(op, leaf(takesTruths(op)), leaf(takesTruths(op))))
	}
	return out
}

// nested has every op in every other one, at each of its places, be it right or not.
func nested() []node {
	var out []node
	for _, in := range eachOp() {
		out = append(out, not(in))
		for _, op := range opsOfTwo {
			out = append(out, two(op, in, leaf(takesTruths(op))), two(op, leaf(takesTruths(op)), in), two(op, in, in))
		}
	}
	return out
}

// atLimits has lists of 18 to 22 Parts, and nestings of 5 to 8, the other limit kept.
func atLimits() []node {
	var out []node
	for _, op := range opsOfTwo {
		for leaves := 9; leaves <= 12; leaves++ {
			out = append(out, balanced(op, leaves))
			if isTruthOp(op) {
				out = append(out, not(balanced(op, leaves)))
			}
		}
	}
	for _, op := range append(slices.Clone(opsOfTwo), impl.ExNot) {
		for deep := 5; deep <= 8; deep++ {
			out = append(out, chain(op, deep, false), chain(op, deep, true))
		}
	}
	return out
}

func leaves() []node {
	var out []node
	for _, n := range []int64{0, 1, -1, 9, 10, -10, 99, 100, 123456, -654321, mostNum - 1, 1 - mostNum, mostNum, -mostNum} {
		out = append(out, num(n))
	}
	for _, name := range names {
		out = append(out, field(name), known(name))
		for _, code := range []int64{1, 2, 9, 10, 19, 20} {
			out = append(out, has(name, code))
		}
	}
	return out
}

func randomNode(r *rand.Rand, truth bool, deep int) node {
	name := names[r.Intn(len(names))]
	switch {
	case truth && (deep == 1 || r.Intn(5) == 0):
		if r.Intn(2) == 0 {
			return known(name)
		}
		return has(name, 1+r.Int63n(20))
	case truth && r.Intn(4) == 0:
		return not(randomNode(r, true, deep-1))
	case truth:
		op := opsOfTwo[3+r.Intn(5)]
		return two(op, randomNode(r, takesTruths(op), deep-1), randomNode(r, takesTruths(op), deep-1))
	case deep == 1 || r.Intn(3) == 0:
		if r.Intn(2) == 0 {
			return field(name)
		}
		return num(r.Int63n(2*mostNum+1) - mostNum)
	}
	op := opsOfTwo[r.Intn(3)]
	return two(op, randomNode(r, false, deep-1), randomNode(r, false, deep-1))
}

func randomRight(seed int64, count int) []node {
	r := rand.New(rand.NewSource(seed))
	var out []node
	for len(out) < count {
		n := randomNode(r, r.Intn(3) > 0, 1+r.Intn(6))
		if n.right() {
			out = append(out, n)
		}
	}
	return out
}

// rightNodes and wrongNodes: all of the trees above, told apart by the document's words.
func rightNodes() []node {
	all := slices.Concat(eachOp(), nested(), atLimits(), leaves(), randomRight(7, 300))
	return slices.DeleteFunc(all, func(n node) bool { return !n.right() })
}

func wrongNodes() []node {
	all := slices.Concat(nested(), atLimits())
	return slices.DeleteFunc(all, node.right)
}

// wrongParts: Parts that are right in no list.
func wrongParts() []impl.Part {
	var out []impl.Part
	for _, op := range noOps {
		out = append(out, impl.Part{Op: op}, impl.Part{Op: op, N: 1}, impl.Part{Op: op, Name: "a"}, impl.Part{Op: op, N: 1, Name: "a"})
	}
	for _, n := range []int64{mostNum + 1, -mostNum - 1, 1 << 32, math.MinInt64, math.MaxInt64} {
		out = append(out, num(n).part)
	}
	for _, code := range []int64{0, 21, -1, 22, 1<<32 + 1, math.MinInt64, math.MaxInt64} {
		out = append(out, has("a", code).part)
	}
	for _, name := range notNames {
		out = append(out, field(name).part, known(name).part, has(name, 1).part)
	}
	return append(out, needlessParts()...)
}

// needlessParts: each op with a field set that is not named for it.
func needlessParts() []impl.Part {
	var out []impl.Part
	for _, n := range eachOp() {
		p := n.part
		for _, other := range []int64{1, -1, 20, mostNum, math.MinInt64, math.MaxInt64} {
			if p.Op != impl.ExNum && p.Op != impl.ExHas {
				out = append(out, impl.Part{Op: p.Op, N: other, Name: p.Name})
			}
		}
		for _, name := range []string{"a", "has", "A", " ", "\x00", strings.Repeat("a", 21)} {
			if p.Name == "" {
				out = append(out, impl.Part{Op: p.Op, N: p.N, Name: name})
			}
		}
	}
	return out
}

// wrongLists: what is not right, of every kind that is named above, and lists that lack a Part, or have one too many.
func wrongLists() [][]impl.Part {
	out := [][]impl.Part{nil, {}}
	for _, n := range wrongNodes() {
		out = append(out, n.parts())
	}
	for _, op := range append(slices.Clone(opsOfTwo), impl.ExNot) {
		out = append(out, []impl.Part{{Op: op}})
	}
	for _, n := range slices.Concat(eachOp(), randomRight(8, 50)) {
		parts := n.parts()
		out = append(out, parts[:len(parts)-1], append(n.parts(), num(1).part), append(n.parts(), known("a").part), append(n.parts(), not(known("a")).part), append(n.parts(), parts...))
	}
	for _, p := range wrongParts() {
		for _, n := range eachOp() {
			for at, q := range n.parts() {
				if p.Op == q.Op || len(n.in) > 0 && at > 0 {
					x := n.parts()
					x[at] = p
					out = append(out, x)
				}
			}
		}
	}
	for _, size := range []int{21, 100, 399, 400, 401, 402, 1000, 100001} {
		out = append(out, slices.Repeat([]impl.Part{{Op: impl.ExNot}}, size), slices.Repeat([]impl.Part{{Op: impl.ExNum}}, size), slices.Repeat([]impl.Part{{Op: impl.ExPlus}}, size))
		out = append(out, append(known("a").parts(), make([]impl.Part, size)...), append(slices.Repeat([]impl.Part{{Op: impl.ExNot}}, size), known("a").part))
	}
	return out
}
