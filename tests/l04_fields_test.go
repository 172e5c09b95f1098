package tests

import (
	"slices"
	"strings"
	"testing"

	"loop.example/g00561/impl"
)

func checkFields(t *testing.T, x []impl.Part, want ...string) {
	t.Helper()
	got := impl.ExprFields(x)
	if !slices.Equal(got, want) {
		t.Errorf("the fields of %s: got %q, want %q", shown(x), got, want)
	}
}

func TestPromise7Fields(t *testing.T) {
	for _, n := range rightNodes() {
		checkFields(t, n.parts(), n.fields()...)
	}
	for _, x := range wrongLists() {
		checkFields(t, x)
	}
}

func TestPromise7FieldsByHand(t *testing.T) {
	checkFields(t, num(5).parts())
	checkFields(t, two(impl.ExSame, num(1), num(2)).parts())
	checkFields(t, field("age").parts(), "age")
	checkFields(t, has("likes", 3).parts(), "likes")
	checkFields(t, known("name").parts(), "name")
	checkFields(t, two(impl.ExAnd, known("c"), two(impl.ExOr, has("b", 1), two(impl.ExBelow, field("a"), num(1)))).parts(), "a", "b", "c")
	checkFields(t, two(impl.ExAnd, two(impl.ExSame, field("a"), field("a")), two(impl.ExOr, known("a"), has("a", 2))).parts(), "a")
	checkFields(t, two(impl.ExSame, two(impl.ExPlus, field("b"), field("a")), two(impl.ExMinus, field("a"), field("b"))).parts(), "a", "b")
	// The shorter one first, if one begins the other; a digit ahead of `_`, that ahead of a letter.
	checkFields(t, two(impl.ExSame, two(impl.ExPlus, field("aa"), field("a")), two(impl.ExPlus, field("a_"), field("a1"))).parts(), "a", "a1", "a_", "aa")
}

// askAllOf calls all that takes an expression.
func askAllOf(x []impl.Part) {
	impl.ExprRight(x)
	impl.ExprTruth(x)
	impl.ExprText(x)
	impl.ExprFields(x)
}

func TestExprsAreNotChanged(t *testing.T) {
	all := wrongLists()
	for _, n := range rightNodes() {
		all = append(all, n.parts())
	}
	for _, x := range all {
		// What stands in the list's memory behind its end is not the program's either.
		roomy := append(slices.Clone(x), num(7).part, known("z").part, num(7).part)
		before := slices.Clone(roomy)
		askAllOf(roomy[:len(x)])
		same(t, shown(x)+" stays as it is", slices.Equal(roomy, before), true)
	}
}

func TestExprsAreNewMemory(t *testing.T) {
	text := strings.Clone("((age < 5) & (known(name) | !has(likes,3)))")
	first, second := impl.ExprRead(text), impl.ExprRead(text)
	want := slices.Clone(second.Expr)
	for i, p := range first.Expr {
		same(t, "a Name that is read", overlaps(p.Name, text), false)
		same(t, "a Name that is read twice", overlaps(p.Name, second.Expr[i].Name), false)
		first.Expr[i] = impl.Part{}
	}
	same(t, "the other answer", slices.Equal(second.Expr, want), true)
	checkExprRead(t, text, want)

	for _, n := range []node{field("age"), known("age"), has("age", 1), two(impl.ExSame, field("age"), num(1))} {
		x := n.parts()
		for i := range x {
			x[i].Name = strings.Clone(x[i].Name)
		}
		made, fields, again := impl.ExprText(x), impl.ExprFields(x), impl.ExprFields(x)
		read := impl.ExprRead(made)
		for i, p := range x {
			same(t, "ExprText of "+made, overlaps(made, p.Name), false)
			same(t, "ExprFields of "+made, overlaps(fields[0], p.Name), false)
			same(t, "ExprRead of "+made, overlaps(read.Expr[i].Name, made), false)
		}
		fields[0] = "other"
		same(t, "the other fields", again[0], "age")
	}
}
