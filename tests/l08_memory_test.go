package tests

import (
	"slices"
	"strings"
	"testing"

	"loop.example/g00561/impl"
)

// memoryForms tell names of both sorts, of one byte and of more.
func memoryForms() [][]impl.Item {
	l := []impl.Item{askInt("a"), when(never()), askInt("never1"), check("b", always(), "?"), compute("c2", num(1)), end(), must("dead_1", not(never()), "?"), check("dead_2", two(impl.ExAtMost, field("a"), num(5)), "?")}
	return slices.Concat(rightForms(), narrowForms(151, 200), [][]impl.Item{l, wideForm()})
}

func memoryExprs() [][]impl.Part {
	out := [][]impl.Part{nil, {}, make([]impl.Part, impl.MaxList+1)}
	for _, n := range append(eachOp(), known("f0"), field("f0"), below(field("age"), num(3)), always(), never(), not(known("a"))) {
		out = append(out, n.parts())
	}
	return out
}

// exprApart is in memory of its own, with room behind its end that is not the program's either.
func exprApart(x []impl.Part) []impl.Part {
	return itemsApart([]impl.Item{{Expr: x}})[0].Expr
}

func checkExprApart(t *testing.T, what string, got, want []impl.Part) {
	t.Helper()
	same(t, what+" is as it was", slices.Equal(got, want), true)
	for _, p := range got[len(got):cap(got)] {
		same(t, what+": behind its end", p.Op, int64(77))
	}
}

func TestStaticsAreNotChanged(t *testing.T) {
	for _, before := range slices.Concat(memoryForms(), wrongForms()) {
		l := itemsApart(before)
		impl.Unreachable(l)
		impl.DeadChecks(l)
		for _, parts := range memoryExprs() {
			x := exprApart(parts)
			impl.SpanOf(l, x)
			impl.CanBe(l, x)
			impl.CanNot(l, x)
			checkExprApart(t, "the expression", x, parts)
		}
		for i := range l[:min(len(l), 30)] {
			// What is handed in may be a piece of the form itself.
			impl.SpanOf(l, l[i].Expr)
			impl.CanBe(l, l[i].Expr)
			impl.CanNot(l, l[i].Expr)
		}
		checkItemsApart(t, "the form", l, before)
	}
}

func TestStaticsKeepNoMemory(t *testing.T) {
	told := 0
	for _, before := range memoryForms() {
		l := itemsApart(before)
		texts := textsOf(l)
		for _, list := range []func(l []impl.Item) []string{impl.Unreachable, impl.DeadChecks} {
			names := list(l)
			want := strings.Join(names, " ")
			same(t, "the texts handed in", anyOverlap(names, texts), false)
			told += len(names)
			scribbledNames(names)
			checkItemsApart(t, "the form", l, before)
			same(t, "once more", strings.Join(list(l), " "), want)
		}
		scribbledItems(l)
	}
	same(t, "many names are told", told > 100, true)
}

// TestStaticsOutliveTheForm: what was told of a form stays as it is when that is written over.
func TestStaticsOutliveTheForm(t *testing.T) {
	for _, before := range memoryForms() {
		l := itemsApart(before)
		never, dead := impl.Unreachable(l), impl.DeadChecks(l)
		blocks, _ := blocksOf(before)
		scribbledItems(l)
		sameNames(t, "Unreachable", never, neverIn(before, blocks, false))
		sameNames(t, "DeadChecks", dead, deadIn(before))
	}
}
