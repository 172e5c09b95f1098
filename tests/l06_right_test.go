package tests

import (
	"fmt"
	"math"
	"math/rand"
	"slices"
	"strings"
	"testing"

	"loop.example/g00561/impl"
)

func TestFormConstants(t *testing.T) {
	for i, kind := range []int64{impl.ItAsk, impl.ItIf, impl.ItElse, impl.ItEnd, impl.ItCheck, impl.ItCompute} {
		same(t, "a Kind", kind, int64(i+1))
	}
	for i, kind := range []int64{impl.TyInt, impl.TyCode, impl.TySet, impl.TyText} {
		same(t, "a Type", kind, int64(i+1))
	}
	same(t, "MaxItems", impl.MaxItems, mostItems)
}

func checkForm(t *testing.T, what string, l []impl.Item, right bool) {
	t.Helper()
	if impl.FormRight(l) != right {
		t.Errorf("%s: right: %v, want %v: %s", what, !right, right, shown(l))
	}
}

// checkMade has the Item stand where nothing but itself can be wrong.
func checkMade(t *testing.T, what string, f impl.Item, right bool) {
	t.Helper()
	l := around(f)
	checkForm(t, what, l, right)
	if formMade(l) != right {
		t.Errorf("%s: the document's word: %v, want %v: %s", what, !right, right, shown(f))
	}
}

func TestPromise10Right(t *testing.T) {
	for i, l := range rightForms() {
		checkForm(t, fmt.Sprintf("right %d", i), l, true)
		same(t, "the document's word", formMade(l), true)
	}
	for i, l := range slices.Concat(wrongForms(), longForms()) {
		checkForm(t, fmt.Sprintf("wrong %d", i), l, false)
	}
	for count := range 30 {
		checkForm(t, fmt.Sprintf("%d items", count), manyItems(count), count <= mostItems)
		ends := append(manyItems(count), when(always()), end())
		checkForm(t, fmt.Sprintf("%d items and a block", count), ends, count+2 <= mostItems)
	}
}

func TestPromise10RightKinds(t *testing.T) {
	for _, f := range soMade() {
		checkMade(t, "so made", f, true)
		checkMade(t, "an empty Expr", withExpr(f, append([]impl.Part{}, f.Expr...)), true)
		for _, kind := range noItems {
			other := f
			other.Kind = kind
			checkMade(t, "no Kind", other, false)
		}
	}
	for kind := int64(-300); kind <= 300; kind++ {
		bare := kind == impl.ItElse || kind == impl.ItEnd
		checkMade(t, "a Kind alone", impl.Item{Kind: kind}, bare)
	}
}

func TestPromise10RightNames(t *testing.T) {
	for _, f := range soMade() {
		for _, name := range names {
			checkMade(t, "a name", withName(f, name), hasName(f.Kind))
		}
		for _, name := range append(slices.Clone(notNames), tooLong()) {
			checkMade(t, "no name", withName(f, name), name == "" && !hasName(f.Kind))
		}
	}
}

func TestPromise10RightTypes(t *testing.T) {
	for _, f := range soMade() {
		for _, kind := range noTypes {
			other := f
			other.Type = kind
			checkMade(t, "no Type", other, kind == 0 && f.Kind != impl.ItAsk)
		}
		for _, n := range []int64{1, 2, 4, -1, 20, mostNum, math.MinInt64, math.MaxInt64} {
			if f.Kind == impl.ItAsk {
				continue
			}
			checkMade(t, "a Low", withBounds(f, n, 0), false)
			checkMade(t, "a High", withBounds(f, 0, n), false)
			f.Type = n
			checkMade(t, "a Type", f, false)
			f.Type = 0
		}
	}
}

func TestPromise10RightBounds(t *testing.T) {
	edges := []int64{math.MinInt64, math.MinInt64 + 1, -mostInt, -mostNum - 1, -mostNum, 1 - mostNum, -21, -2, -1, 0, 1, 2, 19, 20, 21, 39, 40, 41, 60, mostNum - 1, mostNum, mostNum + 1, mostInt, 1<<32 + 1, math.MaxInt64 - 1, math.MaxInt64}
	for _, kind := range allTypes {
		for _, low := range edges {
			for _, high := range edges {
				f := withBounds(askOf("new", kind), low, high)
				checkMade(t, "bounds", f, boundsMade(kind, low, high))
			}
		}
	}
	for _, f := range []impl.Item{
		ask("a", impl.TyInt, -mostNum, mostNum, "?"), ask("a", impl.TyInt, mostNum, mostNum, "?"), ask("a", impl.TyInt, -mostNum, -mostNum, "?"), ask("a", impl.TyInt, 0, 0, "?"),
		ask("a", impl.TyCode, 1, 1, "?"), ask("a", impl.TyCode, 1, 20, "?"), ask("a", impl.TySet, 1, 1, "?"), ask("a", impl.TySet, 1, 20, "?"), ask("a", impl.TyText, 0, 1, "?"), ask("a", impl.TyText, 0, 40, "?"),
	} {
		checkMade(t, "by hand", f, true)
	}
	for _, f := range []impl.Item{
		ask("a", impl.TyInt, -mostNum-1, 0, "?"), ask("a", impl.TyInt, 0, mostNum+1, "?"), ask("a", impl.TyInt, 1, 0, "?"), ask("a", impl.TyInt, mostNum, -mostNum, "?"),
		ask("a", impl.TyCode, 0, 1, "?"), ask("a", impl.TyCode, 2, 3, "?"), ask("a", impl.TyCode, 1, 0, "?"), ask("a", impl.TyCode, 1, 21, "?"),
		ask("a", impl.TySet, 0, 1, "?"), ask("a", impl.TySet, 2, 3, "?"), ask("a", impl.TySet, 1, 0, "?"), ask("a", impl.TySet, 1, 21, "?"),
		ask("a", impl.TyText, 1, 1, "?"), ask("a", impl.TyText, -1, 1, "?"), ask("a", impl.TyText, 0, 0, "?"), ask("a", impl.TyText, 0, 41, "?"),
	} {
		checkMade(t, "by hand", f, false)
	}
}

func TestPromise10RightTexts(t *testing.T) {
	for _, f := range soMade() {
		may := hasText(f.Kind)
		for size := range 70 {
			text := strings.Repeat("x", size)
			checkMade(t, fmt.Sprintf("a Text of %d bytes", size), withText(f, text), may && size >= 1 && size <= 60 || !may && size == 0)
		}
		for b := range 256 {
			one := string([]byte{byte(b)})
			plain := may && b >= 32 && b <= 126
			checkMade(t, "a byte alone", withText(f, one), plain && b != ' ')
			checkMade(t, "a byte first", withText(f, one+"b"), plain && b != ' ')
			checkMade(t, "a byte last", withText(f, "a"+one), plain && b != ' ')
			checkMade(t, "a byte between", withText(f, "a"+one+"b"), plain)
			checkMade(t, "a byte between, of 60", withText(f, strings.Repeat("a", 30)+one+strings.Repeat("b", 29)), plain)
		}
		for _, text := range []string{" a", "a ", " a ", "  ", " ", strings.Repeat(" ", 60), "a" + strings.Repeat(" ", 59), "a\n", "\na", "a\tb", tooLong(), "ä"} {
			checkMade(t, "a Text", withText(f, text), false)
		}
		for _, text := range []string{"a  b", "a" + strings.Repeat(" ", 58) + "b", ":", ": a", "a : b", "{", "end", plainBytes()[1:61]} {
			checkMade(t, "a Text", withText(f, text), may)
		}
	}
}

func TestPromise10RightExprs(t *testing.T) {
	// Names in these are those of fieldsAhead, or none, so that nothing but the Expr is wrong.
	truths := []node{always(), known("t"), has("s", 20), not(always()), not(not(not(not(not(known("s"))))))}
	numbers := []node{num(0), num(mostNum), field("i"), two(impl.ExTimes, field("k"), num(2)), balanced(impl.ExPlus, 10), chain(impl.ExPlus, 6, true)}
	for _, f := range soMade() {
		for _, n := range truths {
			checkMade(t, "a truth", withExpr(f, n.parts()), hasExpr(f.Kind) && f.Kind != impl.ItCompute)
		}
		for _, n := range numbers {
			checkMade(t, "a number", withExpr(f, n.parts()), f.Kind == impl.ItCompute)
		}
		checkMade(t, "no Expr", withExpr(f, nil), !hasExpr(f.Kind))
		checkMade(t, "an empty Expr", withExpr(f, []impl.Part{}), !hasExpr(f.Kind))
	}
	for _, f := range []impl.Item{when(always()), check("new", always(), "?"), compute("new", num(1)), askInt("new"), otherwise(), end()} {
		for _, x := range wrongLists() {
			if len(x) > 0 {
				checkForm(t, "an Expr that is not right", around(withExpr(f, x)), false)
			}
		}
		for _, n := range []node{balanced(impl.ExPlus, 11), not(not(not(not(not(not(known("s"))))))), chain(impl.ExPlus, 7, true)} {
			checkMade(t, "an Expr beyond a limit", withExpr(f, n.parts()), false)
		}
	}
}

func TestPromise10RightHard(t *testing.T) {
	for _, f := range soMade() {
		f.Hard = false
		checkMade(t, "not Hard", f, true)
		f.Hard = true
		checkMade(t, "Hard", f, f.Kind == impl.ItCheck)
	}
}

func TestPromise10NamesUnlike(t *testing.T) {
	named := itemsOf(impl.ItAsk, impl.ItCheck, impl.ItCompute)
	for _, first := range named {
		for _, second := range named {
			l := append(fieldsAhead(), withName(first, "one"), withName(second, "two"))
			checkForm(t, "two names", l, true)
			l[6].Name = "one"
			checkForm(t, "one name twice", l, false)
			apart := append(fieldsAhead(), withName(first, "one"), when(always()), withName(second, "one"), end())
			checkForm(t, "one name twice, in a block", apart, false)
			branches := append(fieldsAhead(), when(always()), withName(first, "one"), otherwise(), withName(second, "one"), end())
			checkForm(t, "one name twice, one of them in each branch", branches, false)
			branches[8].Name = "one_"
			checkForm(t, "names that begin alike", branches, true)
		}
	}
	for at := range mostItems {
		for other := range mostItems {
			l := manyItems(mostItems)
			l[at].Name = l[other].Name
			checkForm(t, fmt.Sprintf("the name of %d at %d", other, at), l, at == other)
		}
	}
}

// target is what a name is the Name of, and whether it may stand in an ExField, an ExHas, an ExKnown.
type target struct {
	what                  string
	ahead, behind         []impl.Item
	ofField, ofHas, ofAny bool
}

func targets() []target {
	return []target{
		{what: "no Item"},
		{what: "no Item, others beside", ahead: []impl.Item{askInt("on"), askInt("one_"), askOf("oneone", impl.TySet)}},
		{what: "an int ahead", ahead: []impl.Item{askOf("one", impl.TyInt)}, ofField: true, ofAny: true},
		{what: "a code ahead", ahead: []impl.Item{askOf("one", impl.TyCode)}, ofField: true, ofAny: true},
		{what: "a set ahead", ahead: []impl.Item{askOf("one", impl.TySet)}, ofHas: true, ofAny: true},
		{what: "a text ahead", ahead: []impl.Item{askOf("one", impl.TyText)}, ofAny: true},
		{what: "a compute ahead", ahead: []impl.Item{compute("one", num(1))}, ofField: true, ofAny: true},
		{what: "a check ahead", ahead: []impl.Item{check("one", always(), "?")}},
		{what: "a must ahead", ahead: []impl.Item{must("one", always(), "?")}},
		{what: "an int in a block ahead", ahead: []impl.Item{when(always()), askInt("one"), end()}, ofField: true, ofAny: true},
		{what: "a set in an else ahead", ahead: []impl.Item{when(always()), otherwise(), askOf("one", impl.TySet), end()}, ofHas: true, ofAny: true},
		{what: "an int behind", behind: []impl.Item{askInt("one")}},
		{what: "a set behind", behind: []impl.Item{askOf("one", impl.TySet)}},
		{what: "a compute behind", behind: []impl.Item{compute("one", num(1))}},
	}
}

// asking are Items, and those behind that they need, in which the Part stands, alone and with others around it.
func asking(p impl.Part) [][]impl.Item {
	in := node{part: p}
	if isTruthOp(p.Op) {
		return [][]impl.Item{
			{when(in), end()}, {when(not(in)), end()}, {when(two(impl.ExOr, always(), in)), end()},
			{check("two", in, "?")}, {must("two", in, "?")}, {check("two", two(impl.ExAnd, in, always()), "?")},
		}
	}
	return [][]impl.Item{
		{compute("two", in)}, {compute("two", two(impl.ExPlus, num(1), in))}, {compute("two", two(impl.ExTimes, in, in))},
		{when(below(in, num(1))), end()}, {when(below(num(1), in)), end()}, {check("two", below(num(1), in), "?")}, {must("two", below(in, in), "?")},
	}
}

func TestPromise10Fields(t *testing.T) {
	for _, to := range targets() {
		for _, p := range []impl.Part{field("one").part, has("one", 3).part, known("one").part} {
			right := map[int64]bool{impl.ExField: to.ofField, impl.ExHas: to.ofHas, impl.ExKnown: to.ofAny}[p.Op]
			for _, items := range asking(p) {
				l := slices.Concat(to.ahead, items, to.behind)
				checkForm(t, to.what, l, right)
				same(t, to.what+": the document's word", formMade(l), right)
				checkForm(t, to.what+", with others around", slices.Concat([]impl.Item{askInt("x")}, to.ahead, []impl.Item{askInt("y")}, items, to.behind), right)
			}
		}
	}
}

func TestPromise10FieldsOfItself(t *testing.T) {
	for _, l := range [][]impl.Item{
		{compute("a", field("a"))}, {compute("a", two(impl.ExPlus, num(1), field("a")))}, {check("a", known("a"), "?")}, {must("a", below(field("a"), num(1)), "?")}, {check("a", has("a", 1), "?")},
		{askInt("b"), compute("a", two(impl.ExPlus, field("b"), field("a")))}, {askInt("b"), compute("a", two(impl.ExPlus, field("a"), field("b")))},
		{when(known("a")), askInt("a"), end()}, {when(known("a")), end(), askInt("a")}, {compute("a", field("b")), compute("b", num(1))}, {compute("a", field("b")), compute("b", field("a"))},
	} {
		checkForm(t, "itself, or what is behind", l, false)
	}
	// Each name in an Expr counts, not the first or the last alone.
	for _, op := range []int64{impl.ExAnd, impl.ExOr} {
		for _, pair := range [][2]string{{"a", "b"}, {"b", "a"}, {"b", "b"}} {
			n := two(op, known(pair[0]), known(pair[1]))
			checkForm(t, "one that is not there", []impl.Item{askInt("a"), when(n), end()}, false)
			checkForm(t, "both are there", []impl.Item{askInt("a"), askInt("b"), when(n), end()}, true)
		}
	}
}

func TestPromise10Blocks(t *testing.T) {
	const tooDeep = 8
	for deep := range tooDeep {
		for _, branch := range []bool{false, true} {
			var l []impl.Item
			for range deep {
				l = append(l, when(always()))
				if branch {
					l = append(l, otherwise())
				}
			}
			for range deep {
				l = append(l, end())
			}
			checkForm(t, fmt.Sprintf("%d deep", deep), l, deep <= 6 && len(l) <= mostItems)
			if deep > 0 {
				checkForm(t, "an ItEnd lacks", l[:len(l)-1], false)
				checkForm(t, "an ItIf lacks", l[1:], false)
			}
		}
	}
	beside := slices.Repeat([]impl.Item{when(always()), end()}, 12)
	checkForm(t, "12 blocks, one behind the other", beside, true)
}

func TestPromise10BlocksByHand(t *testing.T) {
	marks := map[rune]impl.Item{'(': when(always()), '|': otherwise(), ')': end()}
	for text, right := range map[string]bool{
		"": true, "()": true, "(|)": true, "|": false, ")": false, "(": false, "(|": false, "|)": false, ")(": false, "(||)": false, "()|": false, "())": false, "(()": false,
		"((|)|)": true, "((||))": false, "(|(|))": true, "(|()|)": false, "(()|())": true, "((|)|(|))": true, "(|(||))": false, "()(|)": true, "(|)|": false, "(|)(||)": false, "((|)": false, "(|))": false,
		"(((((())))))": true, "((((((|))))))": true, "((((((()))))))": false, "(|(|(|(|(|(|))))))": true, "(|((((((|)))))))": false, "(())(((((())))))": true,
	} {
		var l []impl.Item
		for _, r := range text {
			l = append(l, marks[r])
		}
		checkForm(t, text, l, right)
		same(t, text+": the document's word", formMade(l), right)
	}
}

func TestPromise10AllBlocks(t *testing.T) {
	marks := []impl.Item{when(always()), otherwise(), end()}
	for size := range 9 {
		count := 1
		for range size {
			count *= 3
		}
		for number := range count {
			var l []impl.Item
			for rest, left := number, size; left > 0; rest, left = rest/3, left-1 {
				l = append(l, marks[rest%3])
			}
			checkForm(t, "blocks", l, blocksEnd(l))
		}
	}
	r := rand.New(rand.NewSource(101))
	for range 20000 {
		// More that open than close at first, so that many are nested too deep.
		var l []impl.Item
		for at := range 12 + r.Intn(8) {
			l = append(l, marks[(r.Intn(4)+r.Intn(8+at)/8)%3])
		}
		checkForm(t, "blocks", l, blocksEnd(l))
	}
}

// turnedForm changes one thing of a form, so that it is often not right any more.
func turnedForm(r *rand.Rand, l []impl.Item) []impl.Item {
	out := slices.Clone(l)
	if len(out) == 0 {
		return append(out, soMade()[r.Intn(len(soMade()))])
	}
	at, other := r.Intn(len(out)), r.Intn(len(out))
	switch r.Intn(8) {
	case 0:
		out[at], out[other] = out[other], out[at]
	case 1:
		return slices.Delete(out, at, at+1)
	case 2:
		return slices.Insert(out, at, out[other])
	case 3:
		out[at].Name = out[other].Name
	case 4:
		out[at].Type = int64(r.Intn(6))
	case 5:
		out[at].Expr = out[other].Expr
	case 6:
		out[at].Low, out[at].High = out[other].Low, out[other].High
	case 7:
		out[at].Kind = int64(r.Intn(8))
	}
	return out
}

func TestPromise10RightRandom(t *testing.T) {
	r := rand.New(rand.NewSource(102))
	right, wrong := 0, 0
	for _, l := range randomForms(103, 3000) {
		checkForm(t, "random", l, true)
		for range 10 {
			other := turnedForm(r, l)
			made := formMade(other)
			checkForm(t, "turned", other, made)
			if made {
				right++
			} else {
				wrong++
			}
		}
	}
	same(t, fmt.Sprintf("many of both: %d, %d", right, wrong), right > 2000 && wrong > 2000, true)
}
