package tests

import (
	"fmt"
	"math/big"
	"math/rand"
	"slices"
	"testing"

	"loop.example/g00561/impl"
)

func told(n int64) impl.Result {
	return impl.Result{Kind: impl.RsNum, N: n}
}

var (
	isNot   = impl.Result{Kind: impl.RsTruth}
	isSo    = impl.Result{Kind: impl.RsTruth, N: 1}
	isDark  = impl.Result{Kind: impl.RsDark}
	isWrong = impl.Result{Kind: impl.RsWrong}
)

// checkTold holds IsTrue against the same: it is the truth 1 alone.
func checkTold(t *testing.T, n node, l []impl.Answer, want impl.Result) {
	t.Helper()
	x := n.parts()
	same(t, n.text(), impl.Eval(x, l), want)
	same(t, "IsTrue "+n.text(), impl.IsTrue(x, l), want == isSo)
}

func TestResultConstants(t *testing.T) {
	for i, kind := range []int64{impl.RsNum, impl.RsTruth, impl.RsDark, impl.RsWrong} {
		same(t, "a Kind", kind, int64(i+1))
	}
}

// asked has an answer of each Kind; of "nobody" it has none.
func asked() []impl.Answer {
	return []impl.Answer{
		answer("code", choice(3)), answer("dont", dont()), answer("empty", choices()), answer("int", integer(7)), answer("low", integer(-mostInt)), answer("most", integer(mostInt)),
		answer("nought", integer(0)), answer("one", integer(1)), answer("refuse", refuse()), answer("set", choices(2, 5, 20)), answer("text", words("7")),
	}
}

func TestPromise8Leaves(t *testing.T) {
	for _, n := range []int64{0, 1, -1, mostNum, -mostNum, 12345} {
		checkTold(t, num(n), nil, told(n))
		checkTold(t, num(n), asked(), told(n))
	}
	fields := map[string]impl.Result{
		"code": told(3), "dont": isDark, "empty": isWrong, "int": told(7), "low": told(-mostInt), "most": told(mostInt), "nought": told(0), "one": told(1),
		"refuse": isDark, "set": isWrong, "text": isWrong, "nobody": isDark, "in": isDark, "inti": isDark, "zz": isDark,
	}
	for name, want := range fields {
		checkTold(t, field(name), asked(), want)
		checkTold(t, field(name), nil, isDark)
		checkTold(t, known(name), nil, isNot)
		truth := isNot
		if name == "empty" || name == "set" || name == "text" || want.Kind == impl.RsNum {
			truth = isSo
		}
		checkTold(t, known(name), asked(), truth)
	}
}

func TestPromise8Has(t *testing.T) {
	for code := int64(1); code <= 20; code++ {
		truth := isNot
		if code == 2 || code == 5 || code == 20 {
			truth = isSo
		}
		checkTold(t, has("set", code), asked(), truth)
		checkTold(t, has("empty", code), asked(), isNot)
		checkTold(t, has("all", code), []impl.Answer{answer("all", choices(allCodes()...))}, isSo)
		for _, name := range []string{"code", "int", "most", "one", "text"} {
			checkTold(t, has(name, code), asked(), isWrong)
		}
		for _, name := range []string{"dont", "refuse", "nobody", "se", "sets"} {
			checkTold(t, has(name, code), asked(), isDark)
			checkTold(t, has(name, code), nil, isDark)
		}
	}
}

func TestPromise8LeavesOfAll(t *testing.T) {
	for _, w := range allWritten() {
		if w.value.Kind == impl.VaNone {
			continue
		}
		l := []impl.Answer{answer("a", w.value)}
		checkTold(t, field("a"), l, field("a").tells(l))
		checkTold(t, known("a"), l, known("a").tells(l))
		for code := int64(1); code <= 20; code++ {
			checkTold(t, has("a", code), l, has("a", code).tells(l))
		}
	}
}

// darkNumbers and wrongNumbers: nodes that tell no number, by asked.
func darkNumbers() []node {
	return []node{field("dont"), field("refuse"), field("nobody"), two(impl.ExPlus, field("dont"), num(1)), two(impl.ExTimes, num(0), field("nobody"))}
}

func wrongNumbers() []node {
	over := two(impl.ExTimes, num(mostNum), two(impl.ExTimes, num(mostNum), num(mostNum)))
	return []node{field("set"), field("empty"), field("text"), over, two(impl.ExMinus, field("text"), num(1)), two(impl.ExTimes, field("set"), field("dont"))}
}

func numberOps() []int64 {
	return opsOfTwo[:6]
}

func TestPromise8TwoNumbers(t *testing.T) {
	good := []node{num(0), num(1), num(-3), field("int"), field("code"), field("most")}
	for _, op := range numberOps() {
		for _, dark := range darkNumbers() {
			for _, n := range slices.Concat(good, darkNumbers()) {
				checkTold(t, two(op, dark, n), asked(), isDark)
				checkTold(t, two(op, n, dark), asked(), isDark)
			}
		}
		for _, wrong := range wrongNumbers() {
			for _, n := range slices.Concat(good, darkNumbers(), wrongNumbers()) {
				checkTold(t, two(op, wrong, n), asked(), isWrong)
				checkTold(t, two(op, n, wrong), asked(), isWrong)
			}
		}
	}
}

func TestPromise8Reckoned(t *testing.T) {
	for _, c := range []struct {
		op            int64
		first, second node
		want          int64
	}{
		{impl.ExPlus, num(2), num(3), 5}, {impl.ExPlus, field("int"), field("code"), 10}, {impl.ExPlus, field("low"), field("most"), 0}, {impl.ExPlus, num(-mostNum), num(-mostNum), -2 * mostNum},
		{impl.ExMinus, num(2), num(3), -1}, {impl.ExMinus, num(3), num(2), 1}, {impl.ExMinus, field("int"), field("code"), 4}, {impl.ExMinus, field("low"), field("most"), -2 * mostInt},
		{impl.ExTimes, num(2), num(3), 6}, {impl.ExTimes, num(-2), field("int"), -14}, {impl.ExTimes, field("low"), num(0), 0}, {impl.ExTimes, num(mostNum), num(-mostNum), -1000000000000},
	} {
		checkTold(t, two(c.op, c.first, c.second), asked(), told(c.want))
		checkTold(t, two(impl.ExSame, two(c.op, c.first, c.second), num(0)), asked(), truthOf(c.want == 0))
	}
}

// TestPromise8Bounds: the answer `most` times 1000000 is just Most.
func TestPromise8Bounds(t *testing.T) {
	top, bottom := two(impl.ExTimes, field("most"), num(mostNum)), two(impl.ExTimes, num(mostNum), field("low"))
	checkTold(t, top, asked(), told(impl.Most))
	checkTold(t, bottom, asked(), told(-impl.Most))
	checkTold(t, two(impl.ExTimes, field("low"), num(-mostNum)), asked(), told(impl.Most))
	for _, c := range []struct {
		n    node
		want impl.Result
	}{
		{two(impl.ExPlus, top, num(0)), told(impl.Most)}, {two(impl.ExPlus, top, num(1)), isWrong}, {two(impl.ExPlus, num(1), top), isWrong}, {two(impl.ExPlus, top, num(-1)), told(impl.Most - 1)},
		{two(impl.ExPlus, bottom, num(0)), told(-impl.Most)}, {two(impl.ExPlus, bottom, num(-1)), isWrong}, {two(impl.ExPlus, bottom, num(1)), told(1 - impl.Most)}, {two(impl.ExPlus, top, bottom), told(0)}, {two(impl.ExPlus, top, top), isWrong},
		{two(impl.ExMinus, top, num(0)), told(impl.Most)}, {two(impl.ExMinus, top, num(-1)), isWrong}, {two(impl.ExMinus, top, num(1)), told(impl.Most - 1)}, {two(impl.ExMinus, num(-1), top), isWrong}, {two(impl.ExMinus, num(0), top), told(-impl.Most)},
		{two(impl.ExMinus, bottom, num(1)), isWrong}, {two(impl.ExMinus, bottom, num(-1)), told(1 - impl.Most)}, {two(impl.ExMinus, top, top), told(0)}, {two(impl.ExMinus, top, bottom), isWrong},
		{two(impl.ExTimes, top, num(1)), told(impl.Most)}, {two(impl.ExTimes, top, num(-1)), told(-impl.Most)}, {two(impl.ExTimes, top, num(2)), isWrong}, {two(impl.ExTimes, num(-2), bottom), isWrong}, {two(impl.ExTimes, top, top), isWrong},
		{two(impl.ExTimes, bottom, top), isWrong}, {two(impl.ExTimes, top, num(0)), told(0)}, {two(impl.ExTimes, field("most"), field("most")), isWrong},
		{two(impl.ExMinus, two(impl.ExPlus, top, num(1)), num(1)), isWrong}, {two(impl.ExTimes, num(0), two(impl.ExPlus, top, num(1))), isWrong},
	} {
		checkTold(t, c.n, asked(), c.want)
		want := c.want
		if want.Kind == impl.RsNum {
			want = isSo
		}
		checkTold(t, two(impl.ExSame, c.n, c.n), asked(), want)
	}
}

func truthOf(holds bool) impl.Result {
	if holds {
		return isSo
	}
	return isNot
}

func TestPromise8Compared(t *testing.T) {
	numbers := []int64{-mostNum, -8, -7, -6, -1, 0, 1, 6, 7, 8, mostNum}
	for _, a := range numbers {
		for _, b := range numbers {
			checkTold(t, two(impl.ExSame, num(a), num(b)), nil, truthOf(a == b))
			checkTold(t, two(impl.ExBelow, num(a), num(b)), nil, truthOf(a < b))
			checkTold(t, two(impl.ExAtMost, num(a), num(b)), nil, truthOf(a <= b))
		}
		checkTold(t, two(impl.ExSame, field("int"), num(a)), asked(), truthOf(a == 7))
		checkTold(t, two(impl.ExBelow, field("int"), num(a)), asked(), truthOf(7 < a))
		checkTold(t, two(impl.ExAtMost, num(a), field("int")), asked(), truthOf(a <= 7))
	}
	// What a VaCode tells is a number like any other.
	checkTold(t, two(impl.ExSame, field("code"), num(3)), asked(), isSo)
}

// telling are nodes that tell each of the four that can stand in a truth, by asked.
func telling() map[impl.Result][]node {
	return map[impl.Result][]node{
		isNot:   {two(impl.ExSame, num(1), num(2)), known("dont"), known("nobody"), has("set", 1), has("empty", 2), two(impl.ExBelow, field("int"), num(7)), not(known("int"))},
		isSo:    {two(impl.ExSame, num(1), num(1)), known("set"), has("set", 5), two(impl.ExAtMost, field("int"), num(7)), not(known("refuse"))},
		isDark:  {has("dont", 1), has("nobody", 2), two(impl.ExSame, field("refuse"), num(1)), two(impl.ExBelow, num(1), field("nobody")), not(has("refuse", 3))},
		isWrong: {has("int", 7), has("text", 7), has("code", 3), two(impl.ExAtMost, field("set"), num(1)), two(impl.ExSame, field("text"), field("dont")), not(has("one", 1))},
	}
}

func TestPromise8AndOr(t *testing.T) {
	all := []impl.Result{isNot, isSo, isDark, isWrong}
	and := [4][4]impl.Result{
		{isNot, isNot, isNot, isNot},
		{isNot, isSo, isDark, isWrong},
		{isNot, isDark, isDark, isWrong},
		{isNot, isWrong, isWrong, isWrong},
	}
	or := [4][4]impl.Result{
		{isNot, isSo, isDark, isWrong},
		{isSo, isSo, isSo, isSo},
		{isDark, isSo, isDark, isWrong},
		{isWrong, isSo, isWrong, isWrong},
	}
	nodes := telling()
	for i, first := range all {
		for j, second := range all {
			for _, a := range nodes[first] {
				for _, b := range nodes[second] {
					checkTold(t, two(impl.ExAnd, a, b), asked(), and[i][j])
					checkTold(t, two(impl.ExOr, a, b), asked(), or[i][j])
				}
			}
		}
	}
}

func TestPromise8Not(t *testing.T) {
	turned := map[impl.Result]impl.Result{isNot: isSo, isSo: isNot, isDark: isDark, isWrong: isWrong}
	for is, nodes := range telling() {
		for _, n := range nodes {
			checkTold(t, n, asked(), is)
			checkTold(t, not(n), asked(), turned[is])
			checkTold(t, not(not(n)), asked(), is)
			checkTold(t, not(not(not(n))), asked(), turned[is])
		}
	}
}

func TestPromise8NotTwice(t *testing.T) {
	r := rand.New(rand.NewSource(81))
	count := 0
	for _, n := range slices.Concat(rightNodes(), randomRight(82, 2000)) {
		if twice := not(not(n)); twice.right() {
			l := randomAnswers(r)
			checkTold(t, twice, l, impl.Eval(n.parts(), l))
			count++
		}
	}
	same(t, "many are turned", count > 500, true)
}

func TestPromise8Refused(t *testing.T) {
	for _, x := range wrongLists() {
		what := shown(x)
		for _, l := range [][]impl.Answer{nil, asked(), manyAnswers(31)} {
			same(t, what, impl.Eval(x, l), impl.Result{})
			same(t, "IsTrue "+what, impl.IsTrue(x, l), false)
		}
	}
	for _, l := range slices.Concat(wrongAnswers(), longAnswers()) {
		for _, n := range []node{num(1), field("a"), known("a"), not(known("a")), has("a", 1), two(impl.ExSame, num(1), num(1)), two(impl.ExPlus, num(1), field("b"))} {
			checkTold(t, n, l, impl.Result{})
		}
		same(t, "no expression either", impl.Eval(nil, l), impl.Result{})
	}
}

func answerIn(l []impl.Answer, name string) impl.Value {
	for _, a := range l {
		if a.Name == name {
			return a.Value
		}
	}
	return nothing()
}

// tells is what the document says, by a tree, and by numbers that have no bounds.
func (n node) tells(l []impl.Answer) impl.Result {
	v := answerIn(l, n.part.Name)
	switch n.part.Op {
	case impl.ExNum:
		return told(n.part.N)
	case impl.ExField:
		return [...]impl.Result{impl.VaNone: isDark, impl.VaInt: told(v.N), impl.VaCode: told(v.N), impl.VaSet: isWrong, impl.VaText: isWrong, impl.VaDont: isDark, impl.VaRefuse: isDark}[v.Kind]
	case impl.ExHas:
		in := truthOf(slices.Contains(v.Codes, n.part.N))
		return [...]impl.Result{impl.VaNone: isDark, impl.VaInt: isWrong, impl.VaCode: isWrong, impl.VaSet: in, impl.VaText: isWrong, impl.VaDont: isDark, impl.VaRefuse: isDark}[v.Kind]
	case impl.ExKnown:
		return truthOf(v.Kind >= impl.VaInt && v.Kind <= impl.VaText)
	case impl.ExNot:
		in := n.in[0].tells(l)
		if in.Kind == impl.RsTruth {
			in.N = 1 - in.N
		}
		return in
	}
	return madeOf(n.part.Op, n.in[0].tells(l), n.in[1].tells(l))
}

func madeOf(op int64, a, b impl.Result) impl.Result {
	both := []impl.Result{a, b}
	switch {
	case op == impl.ExAnd && slices.Contains(both, isNot):
		return isNot
	case op == impl.ExOr && slices.Contains(both, isSo):
		return isSo
	case slices.Contains(both, isWrong):
		return isWrong
	case slices.Contains(both, isDark):
		return isDark
	case op == impl.ExAnd:
		return isSo
	case op == impl.ExOr:
		return isNot
	case isTruthOp(op):
		return truthOf(op == impl.ExSame && a.N == b.N || op == impl.ExBelow && a.N < b.N || op == impl.ExAtMost && a.N <= b.N)
	}
	out := big.NewInt(a.N)
	switch op {
	case impl.ExPlus:
		out.Add(out, big.NewInt(b.N))
	case impl.ExMinus:
		out.Sub(out, big.NewInt(b.N))
	case impl.ExTimes:
		out.Mul(out, big.NewInt(b.N))
	}
	if new(big.Int).Abs(out).Cmp(big.NewInt(impl.Most)) > 0 {
		return isWrong
	}
	return told(out.Int64())
}

// randomAnswers are of some of the names that random nodes ask for, and of others.
func randomAnswers(r *rand.Rand) []impl.Answer {
	all := append(slices.Clone(names), "other", "b", "one")
	slices.Sort(all)
	var out []impl.Answer
	for _, name := range all {
		v := someOf(r.Intn(100))
		switch r.Intn(6) {
		case 0:
			continue
		case 1, 2:
			v = integer(r.Int63n(2*mostInt+1) - mostInt)
		case 3:
			v = integer(r.Int63n(3) - 1)
		}
		out = append(out, answer(name, v))
	}
	return out
}

func TestPromise8Random(t *testing.T) {
	r := rand.New(rand.NewSource(8))
	count := map[int64]int{}
	for _, n := range slices.Concat(rightNodes(), randomRight(83, 5000)) {
		for range 4 {
			l := randomAnswers(r)
			want := n.tells(l)
			count[want.Kind]++
			checkTold(t, n, l, want)
		}
	}
	for _, kind := range []int64{impl.RsNum, impl.RsTruth, impl.RsDark, impl.RsWrong} {
		same(t, fmt.Sprintf("many tell Kind %d", kind), count[kind] > 500, true)
	}
}

// TestPromise8OtherNames: an answer more, one less, or another one, of a name that is not in it, changes nothing.
func TestPromise8OtherNames(t *testing.T) {
	r := rand.New(rand.NewSource(84))
	values := []impl.Value{integer(1), integer(0), choice(1), choices(1), choices(), words("a"), dont(), refuse()}
	for _, n := range slices.Concat(eachOp(), nested(), randomRight(85, 1000)) {
		if !n.right() {
			continue
		}
		l := randomAnswers(r)
		want := impl.Eval(n.parts(), l)
		for _, name := range []string{"a0", "other", "b", "one", "zz", "age", "a", "z"} {
			if slices.Contains(n.fields(), name) {
				continue
			}
			for _, v := range values {
				checkTold(t, n, withPut(l, name, v), want)
			}
			without := slices.DeleteFunc(slices.Clone(l), func(a impl.Answer) bool { return a.Name == name })
			checkTold(t, n, without, want)
		}
		only := slices.DeleteFunc(slices.Clone(l), func(a impl.Answer) bool { return !slices.Contains(n.fields(), a.Name) })
		checkTold(t, n, only, want)
	}
}

// TestPromise8IsTrue: a number 1 is no truth.
func TestPromise8IsTrue(t *testing.T) {
	for _, n := range []node{num(1), field("one"), two(impl.ExMinus, num(2), num(1)), two(impl.ExTimes, field("one"), num(1))} {
		checkTold(t, n, asked(), told(1))
		same(t, n.text(), impl.IsTrue(n.parts(), asked()), false)
	}
	same(t, "a truth 1", impl.IsTrue(known("one").parts(), asked()), true)
	same(t, "without answers", impl.IsTrue(known("one").parts(), nil), false)
}
