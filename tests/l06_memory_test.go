package tests

import (
	"slices"
	"strings"
	"testing"

	"loop.example/g00561/impl"
)

// itemsApart is a list in memory of its own, with room behind its ends that is not the program's either.
func itemsApart(l []impl.Item) []impl.Item {
	out := make([]impl.Item, len(l), len(l)+3)
	for i, f := range l {
		x := make([]impl.Part, 0, len(f.Expr)+2)
		for _, p := range f.Expr {
			p.Name = strings.Clone(p.Name)
			x = append(x, p)
		}
		copy(x[len(x):cap(x)], []impl.Part{{Op: 77}, {Op: 77}})
		f.Name, f.Text, f.Expr = strings.Clone(f.Name), strings.Clone(f.Text), x
		out[i] = f
	}
	for i := range out[len(l):cap(out)] {
		out[:cap(out)][len(l)+i] = impl.Item{Kind: 77}
	}
	return out
}

func checkItemsApart(t *testing.T, what string, got, want []impl.Item) {
	t.Helper()
	sameItems(t, what, got, want)
	for _, f := range got {
		for _, p := range f.Expr[len(f.Expr):cap(f.Expr)] {
			same(t, what+": behind the Expr", p.Op, int64(77))
		}
	}
	for _, f := range got[len(got):cap(got)] {
		same(t, what+": behind the list", f.Kind, int64(77))
	}
}

// scribbledItems writes over all the lists of an answer, so that what shares memory with it is seen.
func scribbledItems(l []impl.Item) {
	for i := range l {
		whole := l[i].Expr[:cap(l[i].Expr)]
		for j := range whole {
			whole[j] = impl.Part{Op: -9}
		}
	}
	whole := l[:cap(l)]
	for i := range whole {
		whole[i] = impl.Item{Kind: -9}
	}
}

func textsOf(l []impl.Item) []string {
	var out []string
	for _, f := range l {
		out = append(out, f.Name, f.Text)
		for _, p := range f.Expr {
			out = append(out, p.Name)
		}
	}
	return out
}

func anyOverlap(a, b []string) bool {
	return slices.ContainsFunc(a, func(x string) bool {
		return slices.ContainsFunc(b, func(y string) bool { return overlaps(x, y) })
	})
}

func TestFormsAreNotChanged(t *testing.T) {
	for _, before := range slices.Concat(rightForms(), wrongForms()) {
		l := itemsApart(before)
		impl.FormRight(l)
		impl.FormText(l)
		impl.FieldsOf(l)
		for _, name := range []string{"age", "i", "new", "f0", "", "zzz"} {
			impl.FieldOf(l, name)
		}
		for _, f := range l[:min(len(l), 30)] {
			for _, v := range []impl.Value{integer(1), choices(1, 5), dont(), nothing()} {
				codes := slices.Clone(v.Codes)
				impl.Fits(f, v)
				same(t, "the codes", slices.Equal(v.Codes, codes), true)
			}
		}
		checkItemsApart(t, "the form", l, before)
	}
}

func TestFormsKeepNoMemory(t *testing.T) {
	for _, before := range append(rightForms(), randomForms(108, 50)...) {
		l := itemsApart(before)
		texts := textsOf(l)
		same(t, "fields: the texts handed in", anyOverlap(impl.FieldsOf(l), texts), false)
		text := impl.FormText(l)
		same(t, "text: the texts handed in", anyOverlap([]string{text}, texts), false)
		names := impl.FieldsOf(l)
		for _, name := range names {
			// A copy, for texts of one byte that are made of bytes all lie in one place.
			key := strings.Clone(name)
			f := []impl.Item{impl.FieldOf(l, key)}
			same(t, "field: the texts handed in", anyOverlap(textsOf(f), append(texts, key)), false)
			scribbledItems(f)
		}
		for i := range names[:cap(names)] {
			names[:cap(names)][i] = "scribble"
		}
		checkItemsApart(t, "the form", l, before)
		read := impl.FormRead(text)
		same(t, "read: the text handed in", anyOverlap(textsOf(read.Items), []string{text}), false)
		// Of one answer no list reaches into another one.
		for i := range read.Items {
			mine := read.Items[i : i+1 : i+1]
			scribbledItems(mine)
			sameItems(t, "the others", read.Items[i+1:], before[i+1:])
		}
		sameItems(t, "once more", impl.FormRead(text).Items, before)
	}
}

func TestFormsAreOfOneList(t *testing.T) {
	// Two Items that were handed in with one Expr in common are still told apart from it.
	x := two(impl.ExPlus, field("i"), num(1)).parts()
	l := append(fieldsAhead(), withExpr(compute("one", num(1)), x), withExpr(compute("two", num(1)), x))
	first, second := impl.FieldOf(l, "one"), impl.FieldOf(l, "two")
	scribbledItems([]impl.Item{first})
	same(t, "the other one", slices.Equal(second.Expr, x), true)
	same(t, "what was handed in", slices.Equal(x, two(impl.ExPlus, field("i"), num(1)).parts()), true)
}
