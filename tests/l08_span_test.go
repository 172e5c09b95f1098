package tests

import (
	"fmt"
	"slices"
	"testing"

	"loop.example/g00561/impl"
)

func TestPromise13Leaves(t *testing.T) {
	for _, n := range []int64{0, 1, -1, 7, -12, mostNum - 1, mostNum, 1 - mostNum, -mostNum} {
		for _, l := range [][]impl.Item{nil, {}, wideForm(), deskItems()} {
			checkProspect(t, l, num(n), ofSpan(n, n))
		}
	}
	for _, b := range [][2]int64{{0, 0}, {0, 120}, {-5, 5}, {-7, -3}, {3, 9}, {mostNum, mostNum}, {-mostNum, -mostNum}, {-mostNum, mostNum}} {
		l := []impl.Item{ask("other", impl.TyInt, -9, 9, "?"), ask("a", impl.TyInt, b[0], b[1], "?"), ask("more", impl.TyInt, 1, 2, "?")}
		checkProspect(t, l, field("a"), ofSpan(b[0], b[1]))
	}
	for high := int64(1); high <= 20; high++ {
		l := []impl.Item{ask("other", impl.TyCode, 1, 1, "?"), ask("a", impl.TyCode, 1, high, "?")}
		checkProspect(t, l, field("a"), ofSpan(1, high))
	}
	for _, n := range []node{num(1), num(-mostNum), field("i"), two(impl.ExTimes, field("i"), field("k")), over()} {
		l := append(fieldsAhead(), compute("a", n))
		checkProspect(t, l, field("a"), ofSpan(-mostInt, mostInt))
		checkProspect(t, append(l, when(never()), compute("off", n), end()), field("off"), ofSpan(-mostInt, mostInt))
	}
}

func TestPromise13Reckoned(t *testing.T) {
	l := wideForm()
	plus, minus, times := int64(impl.ExPlus), int64(impl.ExMinus), int64(impl.ExTimes)
	for _, c := range []struct {
		op            int64
		first, second string
		low, high     int64
	}{
		{plus, "low", "low", -14, -6}, {plus, "low", "mid", -11, 2}, {plus, "low", "high", -5, 6}, {plus, "mid", "mid", -8, 10}, {plus, "mid", "high", -2, 14}, {plus, "high", "high", 4, 18}, {plus, "one", "code", 7, 9}, {plus, "one", "one", 12, 12},
		{minus, "low", "low", -4, 4}, {minus, "low", "mid", -12, 1}, {minus, "mid", "low", -1, 12}, {minus, "low", "high", -16, -5}, {minus, "high", "low", 5, 16}, {minus, "mid", "mid", -9, 9}, {minus, "high", "high", -7, 7}, {minus, "one", "code", 3, 5}, {minus, "one", "one", 0, 0},
		{times, "low", "low", 9, 49}, {times, "low", "mid", -35, 28}, {times, "mid", "low", -35, 28}, {times, "low", "high", -63, -6}, {times, "high", "low", -63, -6}, {times, "mid", "mid", -20, 25}, {times, "mid", "high", -36, 45}, {times, "high", "mid", -36, 45}, {times, "high", "high", 4, 81},
		{times, "nought", "all", 0, 0}, {times, "k", "nought", 0, 0}, {times, "one", "code", 6, 18}, {times, "one", "mid", -24, 30}, {times, "up", "down", -1000000000000, 0}, {times, "down", "down", 0, 1000000000000}, {plus, "k", "k", -2 * mostInt, 2 * mostInt}, {minus, "k", "k", -2 * mostInt, 2 * mostInt},
	} {
		checkProspect(t, l, two(c.op, field(c.first), field(c.second)), ofSpan(c.low, c.high))
	}
}

// smallSpans are all that lie from -3 to 3.
func smallSpans() [][2]int64 {
	var out [][2]int64
	for low := int64(-3); low <= 3; low++ {
		for high := low; high <= 3; high++ {
			out = append(out, [2]int64{low, high})
		}
	}
	return out
}

// tried is what comes of all numbers in two spans, each with each.
func tried(op int64, a, b [2]int64) prospect {
	out := ofSpan(impl.Most, -impl.Most)
	if isTruthOp(op) {
		out = ofTruth(false, false)
	}
	for first := a[0]; first <= a[1]; first++ {
		for second := b[0]; second <= b[1]; second++ {
			got := madeOf(op, told(first), told(second))
			switch {
			case got == isSo:
				out.canBe = true
			case got == isNot:
				out.canNot = true
			default:
				out.span.Low, out.span.High = min(out.span.Low, got.N), max(out.span.High, got.N)
			}
		}
	}
	return out
}

// TestPromise13SmallSpans: what is told of two spans is just what comes of the numbers in them.
func TestPromise13SmallSpans(t *testing.T) {
	for _, a := range smallSpans() {
		for _, b := range smallSpans() {
			l := []impl.Item{ask("a", impl.TyInt, a[0], a[1], "?"), ask("b", impl.TyInt, b[0], b[1], "?")}
			for _, op := range numberOps() {
				checkProspect(t, l, two(op, field("a"), field("b")), tried(op, a, b))
			}
		}
	}
}

// tops are spans that reach Most, bottoms such that reach -Most, and none of them is Wrong.
func tops() []node {
	return []node{topNum(), two(impl.ExTimes, num(thousand), two(impl.ExTimes, field("up"), field("up"))), two(impl.ExTimes, field("k"), num(mostNum)), two(impl.ExMinus, num(0), bottomNum())}
}

func bottoms() []node {
	return []node{bottomNum(), two(impl.ExTimes, num(thousand), two(impl.ExTimes, field("up"), field("down"))), two(impl.ExTimes, num(-mostNum), field("k")), two(impl.ExMinus, num(0), topNum())}
}

// topNum is Most alone, bottomNum -Most.
func topNum() node {
	return two(impl.ExTimes, num(thousand), two(impl.ExTimes, num(mostNum), num(mostNum)))
}

func bottomNum() node {
	return two(impl.ExTimes, num(-thousand), two(impl.ExTimes, num(mostNum), num(mostNum)))
}

func TestPromise13Most(t *testing.T) {
	l := wideForm()
	square := two(impl.ExTimes, field("up"), field("up"))
	top, bottom := two(impl.ExTimes, square, num(thousand)), two(impl.ExTimes, square, num(-thousand))
	checkProspect(t, l, topNum(), ofSpan(impl.Most, impl.Most))
	checkProspect(t, l, bottomNum(), ofSpan(-impl.Most, -impl.Most))
	checkProspect(t, l, top, ofSpan(0, impl.Most))
	checkProspect(t, l, bottom, ofSpan(-impl.Most, 0))
	checkProspect(t, l, two(impl.ExTimes, field("k"), num(mostNum)), ofSpan(-impl.Most, impl.Most))
	checkProspect(t, l, two(impl.ExTimes, field("k"), field("all")), ofSpan(-impl.Most, impl.Most))
	for _, c := range []struct {
		n    node
		want prospect
	}{
		{two(impl.ExPlus, top, num(0)), ofSpan(0, impl.Most)}, {two(impl.ExPlus, top, num(1)), ofWrong()}, {two(impl.ExPlus, num(1), top), ofWrong()}, {two(impl.ExPlus, top, num(-1)), ofSpan(-1, impl.Most-1)}, {two(impl.ExPlus, top, field("nought")), ofSpan(0, impl.Most)},
		{two(impl.ExPlus, top, field("mid")), ofWrong()}, {two(impl.ExPlus, top, bottom), ofSpan(-impl.Most, impl.Most)}, {two(impl.ExPlus, bottom, num(1)), ofSpan(1-impl.Most, 1)}, {two(impl.ExPlus, bottom, num(-1)), ofWrong()}, {two(impl.ExPlus, bottom, bottom), ofWrong()},
		{two(impl.ExMinus, top, num(0)), ofSpan(0, impl.Most)}, {two(impl.ExMinus, top, num(1)), ofSpan(-1, impl.Most-1)}, {two(impl.ExMinus, top, num(-1)), ofWrong()}, {two(impl.ExMinus, num(0), top), ofSpan(-impl.Most, 0)}, {two(impl.ExMinus, num(-1), top), ofWrong()},
		{two(impl.ExMinus, num(1), top), ofSpan(1-impl.Most, 1)}, {two(impl.ExMinus, bottom, num(1)), ofWrong()}, {two(impl.ExMinus, bottom, num(-1)), ofSpan(1-impl.Most, 1)}, {two(impl.ExMinus, num(1), bottom), ofWrong()}, {two(impl.ExMinus, top, bottom), ofWrong()}, {two(impl.ExMinus, top, top), ofSpan(-impl.Most, impl.Most)},
		{two(impl.ExTimes, top, num(1)), ofSpan(0, impl.Most)}, {two(impl.ExTimes, top, num(-1)), ofSpan(-impl.Most, 0)}, {two(impl.ExTimes, top, num(2)), ofWrong()}, {two(impl.ExTimes, top, num(-2)), ofWrong()}, {two(impl.ExTimes, bottom, num(2)), ofWrong()}, {two(impl.ExTimes, num(-2), bottom), ofWrong()}, {two(impl.ExTimes, top, num(0)), ofSpan(0, 0)},
		{two(impl.ExTimes, square, num(thousand+1)), ofWrong()}, {two(impl.ExTimes, square, num(-thousand-1)), ofWrong()}, {two(impl.ExTimes, square, num(thousand-1)), ofSpan(0, impl.Most-1000000000000)}, {two(impl.ExTimes, top, top), ofWrong()}, {two(impl.ExTimes, top, bottom), ofWrong()}, {two(impl.ExTimes, field("k"), field("k")), ofWrong()},
	} {
		checkProspect(t, l, c.n, c.want)
		same(t, "the document's word on "+c.n.text(), c.n.prospectIn(l), c.want)
	}
	// One of the two ends beyond is enough.
	for _, a := range tops() {
		checkProspect(t, l, two(impl.ExPlus, a, num(1)), ofWrong())
		checkProspect(t, l, two(impl.ExMinus, num(-1), a), ofWrong())
	}
	for _, a := range bottoms() {
		checkProspect(t, l, two(impl.ExPlus, num(-1), a), ofWrong())
		checkProspect(t, l, two(impl.ExMinus, a, num(1)), ofWrong())
	}
}

// wrongSpans are nodes whose span, by wideForm, is Wrong.
func wrongSpans() []node {
	return []node{over(), two(impl.ExTimes, field("k"), field("k")), two(impl.ExPlus, topNum(), num(1)), two(impl.ExPlus, bottomNum(), num(-1)), two(impl.ExMinus, two(impl.ExPlus, topNum(), num(1)), num(1))}
}

func TestPromise13WrongSpans(t *testing.T) {
	l := wideForm()
	for _, wrong := range wrongSpans() {
		checkProspect(t, l, wrong, ofWrong())
		for _, n := range slices.Concat(wideNumbers()[:18], wrongSpans()) {
			for _, op := range numberOps()[:3] {
				checkProspect(t, l, two(op, wrong, n), ofWrong())
				checkProspect(t, l, two(op, n, wrong), ofWrong())
			}
		}
	}
}

func TestPromise13Limits(t *testing.T) {
	for _, l := range [][]impl.Item{{askInt("b")}, append(manyItems(23), askInt("b")), append([]impl.Item{askInt("b")}, manyItems(23)...)} {
		for leaves := 1; leaves <= 10; leaves++ {
			n := int64(7 * leaves)
			checkProspect(t, l, balanced(impl.ExPlus, leaves), ofSpan(n, n))
		}
		for deep := 1; deep <= 6; deep++ {
			n := int64(7 * deep)
			checkProspect(t, l, chain(impl.ExPlus, deep, false), ofSpan(n, n))
			checkProspect(t, l, chain(impl.ExPlus, deep, true), ofSpan(n, n))
		}
		same(t, "19 parts", len(balanced(impl.ExPlus, 10).parts()), 19)
		whole := not(balanced(impl.ExAnd, 10))
		same(t, "20 parts", len(whole.parts()), 20)
		checkProspect(t, l, whole, ofTruth(true, true))
		checkProspect(t, l, not(below(balanced(impl.ExPlus, 5), balanced(impl.ExPlus, 5))), ofTruth(true, false))
		for _, n := range []node{balanced(impl.ExPlus, 11), chain(impl.ExPlus, 7, false), chain(impl.ExTimes, 7, true), balanced(impl.ExAnd, 11), not(not(balanced(impl.ExAnd, 10))), not(not(not(not(not(not(known("b"))))))), chain(impl.ExBelow, 7, false)} {
			checkNoProspect(t, n.text(), l, n.parts())
		}
	}
	tooMany := append(manyItems(24), askInt("b"))
	for _, n := range []node{num(1), field("b"), always(), known("b")} {
		checkNoProspect(t, "25 items, "+n.text(), tooMany, n.parts())
	}
}

func TestPromise13Refused(t *testing.T) {
	for _, l := range slices.Concat(wrongForms(), longForms()) {
		for _, n := range []node{num(1), field("a"), field("i"), field("age"), two(impl.ExPlus, num(1), num(2)), always(), never(), known("a"), known("i"), not(known("age")), has("s", 1), has("likes", 1)} {
			checkNoProspect(t, fmt.Sprintf("%s in no form %s", n.text(), shown(l)), l, n.parts())
		}
		checkNoProspect(t, "nothing", l, nil)
	}
	for _, l := range append(namedForms(), nil, deskItems(), wideForm()) {
		for _, x := range wrongLists() {
			checkNoProspect(t, "no expression: "+shown(x), l, x)
		}
		for _, size := range []int{impl.MaxList, impl.MaxList + 1, 2 * impl.MaxList} {
			checkNoProspect(t, "long", l, slices.Repeat(num(1).parts(), size))
			checkNoProspect(t, "long", l, append(num(1).parts(), make([]impl.Part, size)...))
		}
	}
	for _, l := range longForms() {
		checkNoProspect(t, "both too long", l, make([]impl.Part, impl.MaxList+1))
	}
}

func TestPromise13Names(t *testing.T) {
	l := wideForm()
	numbers := []string{"low", "mid", "high", "one", "nought", "up", "down", "all", "code", "only", "k"}
	fields := append(slices.Clone(numbers), "set", "text")
	for _, name := range append(slices.Clone(fields), "soft", "hard", "zzz", "lo", "lows", "sets", "if", "end") {
		isNumber, isSet, isOne := slices.Contains(numbers, name), name == "set", slices.Contains(fields, name)
		for _, c := range []struct {
			leaf   node
			stands bool
		}{
			{two(impl.ExSame, field(name), num(1)), isNumber}, {below(num(1), field(name)), isNumber}, {two(impl.ExAtMost, two(impl.ExPlus, num(1), field(name)), num(1)), isNumber}, {has(name, 1), isSet}, {has(name, 20), isSet}, {known(name), isOne},
		} {
			if !c.stands {
				checkNoProspect(t, c.leaf.text(), l, c.leaf.parts())
			}
			for _, n := range []node{c.leaf, not(c.leaf), two(impl.ExAnd, c.leaf, always()), two(impl.ExAnd, always(), c.leaf), two(impl.ExOr, c.leaf, never()), two(impl.ExOr, never(), c.leaf), two(impl.ExOr, always(), c.leaf), two(impl.ExAnd, never(), c.leaf)} {
				want := prospect{}
				if c.stands {
					want = n.prospectIn(l)
				}
				checkProspect(t, l, n, want)
				same(t, n.text()+" tells something", impl.CanBe(l, n.parts()) || impl.CanNot(l, n.parts()), c.stands)
			}
		}
		for _, n := range []node{field(name), two(impl.ExPlus, field(name), num(1)), two(impl.ExTimes, num(0), field(name)), two(impl.ExMinus, field("mid"), field(name))} {
			want := prospect{}
			if isNumber {
				want = n.prospectIn(l)
			}
			checkProspect(t, l, n, want)
		}
	}
}
