package tests

import (
	"slices"
	"strings"
	"testing"

	"loop.example/g00561/impl"
)

func fieldNames(l []impl.Item) []string {
	var out []string
	for _, f := range l {
		if isField(f.Kind) {
			out = append(out, f.Name)
		}
	}
	return out
}

func TestHeadOf(t *testing.T) {
	for _, c := range []struct {
		what string
		l    []impl.Item
		want string
	}{
		{"no items", nil, "status"}, {"an empty form", []impl.Item{}, "status"}, {"the desk", deskItems(), "name;age;work;school;left;likes;status"}, {"all types", fieldsAhead(), "i;c;s;t;k;status"},
		{"an ask", []impl.Item{askOf("a", impl.TySet)}, "a;status"}, {"a compute", []impl.Item{compute("k", num(1))}, "k;status"}, {"both", []impl.Item{compute("z", num(1)), askInt("b"), compute("a", field("b"))}, "z;b;a;status"},
		{"no fields", []impl.Item{check("soft", never(), "?"), must("hard", never(), "a;b"), when(always()), otherwise(), end()}, "status"}, {"a field of the name", []impl.Item{askInt("status"), askInt("full")}, "status;full;status"},
		{"in blocks", []impl.Item{when(never()), askInt("b"), otherwise(), askInt("a"), end(), check("x", always(), "?"), askInt("c")}, "b;a;c;status"}, {"not rising", []impl.Item{askInt("z"), askInt("m"), askInt("a_2"), askInt("a")}, "z;m;a_2;a;status"},
		{"24 fields", manyItems(mostItems), strings.Join(fieldNames(manyItems(mostItems)), ";") + ";status"},
	} {
		same(t, c.what, impl.HeadOf(c.l), c.want)
	}
}

func TestHeadOfAll(t *testing.T) {
	for _, l := range slices.Concat(rightForms(), randomForms(221, 500)) {
		want := append(fieldNames(l), "status")
		same(t, shown(l), impl.HeadOf(l), rowWord(want))
		sameCells(t, shown(l)+": its cells", impl.CellsRead(impl.HeadOf(l)), want)
	}
	// The longest names there may be.
	var l []impl.Item
	for at := range mostItems {
		l = append(l, askInt(nameAt(at)+strings.Repeat("x", 17)))
	}
	same(t, "long names", impl.HeadOf(l), strings.Join(fieldNames(l), ";")+";status")
}

func TestHeadOfNotRight(t *testing.T) {
	for _, l := range slices.Concat(wrongForms(), longForms()) {
		same(t, shown(l), impl.HeadOf(l), "")
	}
	for _, l := range [][]impl.Item{append(deskItems(), end()), append(deskItems(), impl.Item{}), append(deskItems(), askInt("name")), deskItems()[:4], {askInt("A")}, {askInt("a;b")}, {compute("a", always())}} {
		same(t, shown(l), impl.HeadOf(l), "")
	}
}
