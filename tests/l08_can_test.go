package tests

import (
	"slices"
	"testing"

	"loop.example/g00561/impl"
)

// spanForm has two numbers, whose bounds spansAs sets, and a field of each other sort.
func spanForm() []impl.Item {
	return []impl.Item{ask("a", impl.TyInt, 0, 0, "?"), ask("b", impl.TyInt, 0, 0, "?"), askOf("s", impl.TySet), askOf("t", impl.TyText), compute("k", num(1))}
}

func spansAs(aLow, aHigh, bLow, bHigh int64) []impl.Item {
	l := spanForm()
	l[0], l[1] = withBounds(l[0], aLow, aHigh), withBounds(l[1], bLow, bHigh)
	return l
}

func TestPromise13Same(t *testing.T) {
	for _, c := range []struct {
		what          string
		l             []impl.Item
		canBe, canNot bool
	}{
		{"apart, below", spansAs(0, 3, 4, 9), false, true}, {"apart, above", spansAs(4, 9, 0, 3), false, true}, {"touch", spansAs(0, 4, 4, 9), true, true}, {"touch, above", spansAs(4, 9, 0, 4), true, true},
		{"overlap", spansAs(0, 5, 3, 9), true, true}, {"one in the other", spansAs(0, 9, 3, 5), true, true}, {"the other way round", spansAs(3, 5, 0, 9), true, true}, {"alike", spansAs(-2, 2, -2, 2), true, true},
		{"one number, the same", spansAs(4, 4, 4, 4), true, false}, {"nought", spansAs(0, 0, 0, 0), true, false}, {"one number, another", spansAs(4, 4, 5, 5), false, true}, {"one number, and minus it", spansAs(4, 4, -4, -4), false, true},
		{"one number in a span", spansAs(4, 4, 0, 9), true, true}, {"at its end", spansAs(9, 9, 0, 9), true, true}, {"at its beginning", spansAs(0, 9, 0, 0), true, true}, {"beside it", spansAs(10, 10, 0, 9), false, true},
	} {
		t.Run(c.what, func(t *testing.T) {
			checkProspect(t, c.l, two(impl.ExSame, field("a"), field("b")), ofTruth(c.canBe, c.canNot))
			checkProspect(t, c.l, two(impl.ExSame, field("b"), field("a")), ofTruth(c.canBe, c.canNot))
			checkProspect(t, c.l, not(two(impl.ExSame, field("a"), field("b"))), ofTruth(c.canNot, c.canBe))
		})
	}
	// The spans alone count, not what the same name would tell on both sides.
	checkProspect(t, spansAs(0, 9, 0, 0), two(impl.ExSame, field("a"), field("a")), ofTruth(true, true))
	checkProspect(t, spansAs(7, 7, 0, 0), two(impl.ExSame, field("a"), field("a")), ofTruth(true, false))
	checkProspect(t, nil, two(impl.ExSame, num(3), num(3)), ofTruth(true, false))
	checkProspect(t, nil, two(impl.ExSame, num(3), num(-3)), ofTruth(false, true))
}

func TestPromise13BelowAndAtMost(t *testing.T) {
	for _, c := range []struct {
		what          string
		l             []impl.Item
		below, atMost prospect
	}{
		{"apart, below", spansAs(0, 3, 4, 9), ofTruth(true, false), ofTruth(true, false)}, {"apart, above", spansAs(4, 9, 0, 3), ofTruth(false, true), ofTruth(false, true)},
		{"touch, below", spansAs(0, 4, 4, 9), ofTruth(true, true), ofTruth(true, false)}, {"touch, above", spansAs(4, 9, 0, 4), ofTruth(false, true), ofTruth(true, true)},
		{"overlap, below", spansAs(0, 5, 4, 9), ofTruth(true, true), ofTruth(true, true)}, {"overlap, above", spansAs(4, 9, 0, 5), ofTruth(true, true), ofTruth(true, true)},
		{"one in the other", spansAs(0, 9, 3, 5), ofTruth(true, true), ofTruth(true, true)}, {"the other way round", spansAs(3, 5, 0, 9), ofTruth(true, true), ofTruth(true, true)}, {"alike", spansAs(-2, 2, -2, 2), ofTruth(true, true), ofTruth(true, true)},
		{"one number, the same", spansAs(4, 4, 4, 4), ofTruth(false, true), ofTruth(true, false)}, {"one number, the next", spansAs(4, 4, 5, 5), ofTruth(true, false), ofTruth(true, false)}, {"one number, the one ahead", spansAs(5, 5, 4, 4), ofTruth(false, true), ofTruth(false, true)},
		{"below zero", spansAs(-9, -5, -4, -1), ofTruth(true, false), ofTruth(true, false)}, {"around zero", spansAs(-9, 0, 0, 4), ofTruth(true, true), ofTruth(true, false)}, {"at its beginning", spansAs(0, 0, 0, 9), ofTruth(true, true), ofTruth(true, false)}, {"at its end", spansAs(9, 9, 0, 9), ofTruth(false, true), ofTruth(true, true)},
	} {
		t.Run(c.what, func(t *testing.T) {
			checkProspect(t, c.l, below(field("a"), field("b")), c.below)
			checkProspect(t, c.l, two(impl.ExAtMost, field("a"), field("b")), c.atMost)
			// Not less is no more, the other way round.
			turned := ofTruth(c.below.canNot, c.below.canBe)
			checkProspect(t, c.l, two(impl.ExAtMost, field("b"), field("a")), turned)
			checkProspect(t, c.l, not(below(field("a"), field("b"))), turned)
		})
	}
}

func TestPromise13WrongCompared(t *testing.T) {
	l := wideForm()
	for _, wrong := range wrongSpans() {
		for _, n := range slices.Concat(wideNumbers(), tops(), bottoms(), wrongSpans()) {
			for _, op := range numberOps()[3:] {
				checkProspect(t, l, two(op, wrong, n), ofTruth(true, true))
				checkProspect(t, l, two(op, n, wrong), ofTruth(true, true))
			}
		}
	}
	// As wide as a Wrong one, and not Wrong.
	checkProspect(t, l, below(two(impl.ExTimes, field("k"), num(mostNum)), bottomNum()), ofTruth(false, true))
	checkProspect(t, l, below(topNum(), two(impl.ExTimes, field("k"), num(mostNum))), ofTruth(false, true))
	checkProspect(t, l, two(impl.ExAtMost, bottomNum(), two(impl.ExTimes, field("k"), num(mostNum))), ofTruth(true, false))
}

// outlooks are nodes, by spanForm, of each sort that there is: none is neither.
func outlooks() map[prospect][]node {
	both := two(impl.ExOr, known("t"), has("s", 1))
	return map[prospect][]node{
		ofTruth(true, true):  {known("a"), known("t"), known("k"), has("s", 1), has("s", 20), below(field("k"), num(0)), not(known("s")), both},
		ofTruth(true, false): {always(), two(impl.ExSame, field("a"), field("b")), two(impl.ExAtMost, field("a"), num(0)), not(never()), two(impl.ExOr, known("t"), always())},
		ofTruth(false, true): {never(), below(field("a"), field("b")), two(impl.ExSame, field("a"), num(1)), not(always()), two(impl.ExAnd, known("t"), never())},
	}
}

func TestPromise13AndOrNot(t *testing.T) {
	l := spanForm()
	all := outlooks()
	for a, firsts := range all {
		for b, seconds := range all {
			and, or := ofTruth(a.canBe && b.canBe, a.canNot || b.canNot), ofTruth(a.canBe || b.canBe, a.canNot && b.canNot)
			for _, first := range firsts {
				checkProspect(t, l, first, a)
				checkProspect(t, l, not(first), ofTruth(a.canNot, a.canBe))
				checkProspect(t, l, not(not(first)), a)
				for _, second := range seconds {
					checkProspect(t, l, two(impl.ExAnd, first, second), and)
					checkProspect(t, l, two(impl.ExOr, first, second), or)
					checkProspect(t, l, not(two(impl.ExAnd, first, second)), ofTruth(and.canNot, and.canBe))
					checkProspect(t, l, not(two(impl.ExOr, first, second)), ofTruth(or.canNot, or.canBe))
				}
			}
		}
	}
	// Each side is looked at by itself: two that shut each other out can both be.
	out := two(impl.ExAnd, known("t"), not(known("t")))
	checkProspect(t, l, out, ofTruth(true, true))
}

// TestPromise13HasAndKnown: yes, both, even of what can be told ahead otherwise.
func TestPromise13HasAndKnown(t *testing.T) {
	l := append(spanForm(), ask("few", impl.TySet, 1, 2, "?"), when(never()), askInt("off"), compute("m", over()), end())
	for code := int64(1); code <= 20; code++ {
		checkProspect(t, l, has("s", code), ofTruth(true, true))
		checkProspect(t, l, has("few", code), ofTruth(true, true))
		checkProspect(t, l, not(has("few", code)), ofTruth(true, true))
	}
	for _, name := range []string{"a", "b", "s", "t", "k", "few", "off", "m"} {
		checkProspect(t, l, known(name), ofTruth(true, true))
		checkProspect(t, l, not(known(name)), ofTruth(true, true))
	}
}
