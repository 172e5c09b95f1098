package tests

import (
	"fmt"
	"math/rand"
	"slices"
	"testing"

	"loop.example/g00561/impl"
)

// neverIn is the document's word on what can never be reached, by the tree of blocks.
func neverIn(l []impl.Item, blocks []block, never bool) []string {
	var out []string
	for _, b := range blocks {
		switch {
		case b.item.Kind == impl.ItIf:
			n, _ := treeOf(b.item.Expr)
			out = append(out, neverIn(l, b.yes, never || !n.prospectIn(l).canBe)...)
			out = append(out, neverIn(l, b.no, never)...)
		case never:
			out = append(out, b.item.Name)
		}
	}
	return out
}

func deadIn(l []impl.Item) []string {
	var out []string
	for _, f := range l {
		if f.Kind != impl.ItCheck {
			continue
		}
		if n, _ := treeOf(f.Expr); !n.prospectIn(l).canNot {
			out = append(out, f.Name)
		}
	}
	return out
}

func checkNever(t *testing.T, what string, l []impl.Item, never, dead []string) {
	t.Helper()
	sameNames(t, what+": Unreachable", impl.Unreachable(l), never)
	sameNames(t, what+": DeadChecks", impl.DeadChecks(l), dead)
}

func checkNeverByTree(t *testing.T, l []impl.Item) {
	t.Helper()
	blocks, _ := blocksOf(l)
	checkNever(t, shown(l), l, neverIn(l, blocks, false), deadIn(l))
}

// oneOfEachNamed has an Item of each Kind with a Name, and a check that is dead.
func oneOfEachNamed(name string) []impl.Item {
	return []impl.Item{askInt(name + "_a"), check(name+"_b", always(), "?"), compute(name+"_c", num(1)), must(name+"_d", known(name+"_a"), "?")}
}

func TestPromise14Unreachable(t *testing.T) {
	in, out, behind := oneOfEachNamed("in"), oneOfEachNamed("out"), oneOfEachNamed("at")
	inNames, outNames := []string{"in_a", "in_b", "in_c", "in_d"}, []string{"out_a", "out_b", "out_c", "out_d"}
	ifNever, ifAlways, ifBoth := []impl.Item{when(never())}, []impl.Item{when(always())}, []impl.Item{askInt("x"), when(below(field("x"), num(0)))}
	ends, elses := []impl.Item{end()}, []impl.Item{otherwise()}
	for _, c := range []struct {
		what        string
		l           []impl.Item
		never, dead []string
	}{
		{"no items", nil, nil, nil}, {"an empty list", []impl.Item{}, nil, nil}, {"no blocks", in, nil, []string{"in_b"}}, {"an empty block", slices.Concat(ifNever, ends), nil, nil}, {"empty blocks", slices.Concat(ifNever, elses, ends), nil, nil},
		{"can't be", slices.Concat(ifNever, in, ends), inNames, []string{"in_b"}}, {"can't be, and behind", slices.Concat(ifNever, in, ends, behind), inNames, []string{"in_b", "at_b"}}, {"can't be, and ahead", slices.Concat(behind, ifNever, in, ends), inNames, []string{"at_b", "in_b"}},
		{"can't be, else", slices.Concat(ifNever, in, elses, out, ends), inNames, []string{"in_b", "out_b"}}, {"can't be, else, and behind", slices.Concat(ifNever, in, elses, out, ends, behind), inNames, []string{"in_b", "out_b", "at_b"}}, {"can't be, else alone", slices.Concat(ifNever, elses, out, ends), nil, []string{"out_b"}}, {"can't be, empty else", slices.Concat(ifNever, in, elses, ends, out), inNames, []string{"in_b", "out_b"}},
		{"can be", slices.Concat(ifBoth, in, ends), nil, []string{"in_b"}}, {"can be, else", slices.Concat(ifBoth, in, elses, out, ends), nil, []string{"in_b", "out_b"}}, {"must be", slices.Concat(ifAlways, in, ends), nil, []string{"in_b"}},
		// What stands behind the else of one that must be is not told either: only what stands ahead of it.
		{"must be, else", slices.Concat(ifAlways, in, elses, out, ends), nil, []string{"in_b", "out_b"}},
		{"can't be, twice", slices.Concat(ifNever, in, ends, ifNever, out, ends), slices.Concat(inNames, outNames), []string{"in_b", "out_b"}}, {"can't be, can be", slices.Concat(ifNever, in, ends, ifBoth, out, ends), inNames, []string{"in_b", "out_b"}},
	} {
		checkNever(t, c.what, c.l, c.never, c.dead)
	}
}

func TestPromise14UnreachableInner(t *testing.T) {
	in, out, behind := askInt("in"), askInt("out"), askInt("at")
	for _, c := range []struct {
		what  string
		l     []impl.Item
		never []string
	}{
		{"can be in can't be", []impl.Item{when(never()), when(always()), in, otherwise(), out, end(), behind, end()}, []string{"in", "out", "at"}},
		{"can't be in can't be", []impl.Item{when(never()), when(never()), in, otherwise(), out, end(), behind, end()}, []string{"in", "out", "at"}},
		{"in can't be, with an else", []impl.Item{when(never()), when(always()), in, otherwise(), out, end(), otherwise(), behind, end()}, []string{"in", "out"}},
		{"can't be in can be", []impl.Item{when(always()), when(never()), in, otherwise(), out, end(), behind, end()}, []string{"in"}},
		{"can't be in the else of can't be", []impl.Item{when(never()), in, otherwise(), when(never()), out, otherwise(), behind, end(), end()}, []string{"in", "out"}},
		{"can be in the else of can't be", []impl.Item{when(never()), in, otherwise(), when(always()), out, otherwise(), behind, end(), end()}, []string{"in"}},
		{"can't be in the else of can be", []impl.Item{when(always()), in, otherwise(), when(never()), out, end(), behind, end()}, []string{"out"}},
		{"two blocks in can't be", []impl.Item{when(never()), when(always()), in, end(), when(always()), otherwise(), out, end(), end(), behind}, []string{"in", "out"}},
		{"a block ahead of the else", []impl.Item{when(never()), when(always()), otherwise(), end(), in, otherwise(), out, end(), behind}, []string{"in"}},
	} {
		checkNever(t, c.what, c.l, c.never, nil)
	}
}

// nestedBlocks has so many blocks in each other, each with Items of its own around the inner one; what can be is told by the bits.
type nestedBlocks struct {
	can, inElse int
	items       []impl.Item
	never       []string
}

func (b *nestedBlocks) add(f impl.Item, never bool) {
	b.items = append(b.items, f)
	if never {
		b.never = append(b.never, f.Name)
	}
}

func (b *nestedBlocks) named(at int) impl.Item {
	name := fmt.Sprintf("it%d", len(b.items))
	switch at % 3 {
	case 0:
		return askInt(name)
	case 1:
		return must(name, known("first"), "?")
	}
	return compute(name, num(1))
}

// block has Items around the inner block and in the other branch, too, if a form has room for so many.
func (b *nestedBlocks) block(at, deep int, around bool) {
	if at == deep {
		b.add(b.named(at), around)
		return
	}
	n := known("first")
	if b.can>>at&1 == 0 {
		n = never()
	}
	never, inElse, room := around || b.can>>at&1 == 0, b.inElse>>at&1 == 1, deep <= 3
	b.add(when(n), false)
	if !inElse || room {
		b.add(b.named(at), never)
	}
	if !inElse {
		b.block(at+1, deep, never)
	}
	if !inElse && room {
		b.add(b.named(at+1), never)
	}
	if inElse || room {
		b.add(otherwise(), false)
	}
	if inElse {
		b.block(at+1, deep, around)
	}
	if room {
		b.add(b.named(at+2), around)
	}
	b.add(end(), false)
}

func TestPromise14Nested(t *testing.T) {
	for deep := range 7 {
		for can := range 1 << deep {
			for inElse := range 1 << deep {
				b := nestedBlocks{can: can, inElse: inElse}
				b.add(askInt("first"), false)
				b.block(0, deep, false)
				what := fmt.Sprintf("%d deep, %b, %b", deep, can, inElse)
				checkForm(t, what, b.items, true)
				checkNever(t, what, b.items, b.never, nil)
				checkNeverByTree(t, b.items)
			}
		}
	}
}

func TestPromise14AllBlocks(t *testing.T) {
	for _, w := range allBlocks() {
		checkNeverByTree(t, w.l)
		never := impl.Unreachable(w.l)
		for _, name := range wayOf(w.l, w.a).Path {
			same(t, "on the path: "+name, slices.Contains(never, name), false)
		}
	}
}

func TestPromise14Dead(t *testing.T) {
	first := []impl.Item{ask("a", impl.TyInt, 0, 9, "?"), askOf("s", impl.TySet)}
	for _, c := range []struct {
		n    node
		dead bool
	}{
		{always(), true}, {below(field("a"), num(10)), true}, {two(impl.ExAtMost, field("a"), num(9)), true}, {two(impl.ExAtMost, num(0), field("a")), true}, {not(never()), true}, {not(below(num(9), field("a"))), true}, {two(impl.ExOr, has("s", 1), always()), true}, {two(impl.ExAnd, always(), below(num(-1), field("a"))), true},
		{never(), false}, {below(field("a"), num(9)), false}, {two(impl.ExAtMost, field("a"), num(8)), false}, {has("s", 1), false}, {known("a"), false}, {not(known("a")), false}, {two(impl.ExOr, known("a"), not(known("a"))), false}, {two(impl.ExAnd, always(), known("s")), false}, {two(impl.ExSame, over(), over()), false}, {two(impl.ExAtMost, over(), field("a")), false}, {two(impl.ExSame, field("a"), field("a")), false},
	} {
		var want []string
		if c.dead {
			want = []string{"soft", "hard"}
		}
		soft, hard := check("soft", c.n, "?"), must("hard", c.n, "?")
		checkNever(t, c.n.text(), append(slices.Clone(first), soft, hard), nil, want)
		checkNever(t, c.n.text()+", one in each branch", append(slices.Clone(first), when(known("a")), soft, otherwise(), hard, end()), nil, want)
		checkNever(t, c.n.text()+", where nothing comes to", append(slices.Clone(first), when(never()), soft, hard, end()), []string{"soft", "hard"}, want)
		// What is no check is not told, even if it could not be not.
		checkNever(t, c.n.text()+", as an if", append(slices.Clone(first), when(c.n), end()), nil, nil)
	}
}

func TestPromise14DeadInOrder(t *testing.T) {
	l := []impl.Item{check("z", always(), "?"), check("y", never(), "?"), must("x", always(), "?"), when(known("a")), check("w", always(), "?"), end(), must("v", always(), "?"), check("a1", always(), "?")}
	l = append([]impl.Item{askInt("a")}, l...)
	checkNever(t, "in the form's order", l, nil, []string{"z", "x", "w", "v", "a1"})
	var many []impl.Item
	var names []string
	for at := range mostItems {
		many = append(many, check(nameAt(mostItems-at), always(), "?"))
		names = append(names, nameAt(mostItems-at))
	}
	checkNever(t, "24 checks", many, nil, names)
	checkNever(t, "22 checks in a block", append(append([]impl.Item{when(never())}, many[:22]...), end()), names[:22], names[:22])
}

func TestPromise14Refused(t *testing.T) {
	whole := []impl.Item{when(never()), askInt("in"), end(), check("dead", always(), "?")}
	wrong := append(wrongForms(), append(slices.Clone(whole), impl.Item{}), append(slices.Clone(whole), end()), append(slices.Clone(whole), askInt("in")), whole[:2], whole[1:], append(slices.Clone(whole), manyItems(21)...), append(slices.Clone(whole), compute("x", field("y"))))
	for _, l := range append(wrong, longForms()...) {
		checkNever(t, shown(l), l, nil, nil)
	}
	checkNever(t, "as long as may be", append(slices.Clone(whole), manyItems(20)...), []string{"in"}, []string{"dead"})
}

func TestPromise14Random(t *testing.T) {
	never, dead := 0, 0
	for _, l := range slices.Concat(rightForms(), narrowForms(141, 3000), randomForms(142, 1000)) {
		checkNeverByTree(t, l)
		never += len(impl.Unreachable(l))
		dead += len(impl.DeadChecks(l))
	}
	same(t, fmt.Sprintf("many of both: %d, %d", never, dead), never > 300 && dead > 300, true)
}

// TestPromise14Ways: what can never be reached no way comes to, and what is dead none breaks.
func TestPromise14Ways(t *testing.T) {
	r := rand.New(rand.NewSource(145))
	var ways []answered
	for _, l := range narrowForms(143, 1500) {
		ways = append(ways, answersOfForm(r, l)...)
	}
	never, dead := 0, 0
	for _, w := range slices.Concat(handWays(), randomWays(144, 300), ways) {
		route := impl.RouteOf(w.l, w.a)
		for _, name := range impl.Unreachable(w.l) {
			same(t, name+" is on the Path", slices.Contains(route.Path, name), false)
			same(t, name+" is Broken", slices.Contains(route.Broken, name), false)
			same(t, name+" is Known", answerIn(route.Known, name).Kind, int64(impl.VaNone))
			never++
		}
		for _, name := range impl.DeadChecks(w.l) {
			same(t, name+" is Broken", slices.Contains(route.Broken, name), false)
			dead++
		}
	}
	same(t, fmt.Sprintf("many of both: %d, %d", never, dead), never > 500 && dead > 500, true)
}
