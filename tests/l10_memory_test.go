package tests

import (
	"math/rand"
	"slices"
	"strings"
	"testing"

	"loop.example/g00561/impl"
)

func memoryCells() [][]string {
	r := rand.New(rand.NewSource(228))
	out := [][]string{{"one"}, {"one", "two"}, {"a;b", `c\d`, "", "plain"}, {strings.Repeat("x", 100)}, slices.Repeat([]string{"same"}, 40)}
	for range 200 {
		out = append(out, drawnCells(r))
	}
	// Texts of one byte that are made of bytes all lie in one place.
	for _, cells := range out {
		for i, cell := range cells {
			if len(cell) == 1 {
				cells[i] = "two bytes"
			}
		}
	}
	return out
}

func TestCellsKeepNoMemory(t *testing.T) {
	for _, before := range memoryCells() {
		cells := namesApart(before)
		row := impl.CellsText(cells)
		checkNew(t, "the row", row, cells)
		scribbledNames(cells)
		same(t, "the row", row, rowWord(before))
		text := strings.Clone(row)
		read := impl.CellsRead(text)
		checkNew(t, "the cells", read, text)
		scribbledNames(read)
		same(t, "what was handed in", text, row)
		sameCells(t, "once more", impl.CellsRead(text), before)
		loose := strings.Clone(`\a` + strings.ReplaceAll(row, ";", "") + `\`)
		checkNew(t, "the cells of what is no row", impl.CellsRead(loose), loose)
	}
}

func TestCellsAreNotChanged(t *testing.T) {
	for _, before := range append(memoryCells(), slices.Repeat([]string{"ab"}, 41), []string{strings.Repeat("a", 101), ";"}) {
		cells := namesApart(before)
		impl.CellsText(cells)
		sameCells(t, "the cells", cells, before)
		for _, cell := range cells[len(cells):cap(cells)] {
			same(t, "behind the cells", cell, "room")
		}
	}
	// A piece of a list that goes on behind it.
	all := []string{"ab", "cd", "ef"}
	same(t, "a piece", impl.CellsText(all[:1]), "ab")
	sameCells(t, "all of it", all, []string{"ab", "cd", "ef"})
}

func TestHeadsKeepNoMemory(t *testing.T) {
	for _, before := range slices.Concat(rightForms(), wrongForms(), randomForms(229, 50)) {
		l := itemsApart(before)
		head := impl.HeadOf(l)
		checkNew(t, "the head", head, l)
		checkItemsApart(t, "the form", l, before)
		scribbledItems(l)
		same(t, "the head, once more", impl.HeadOf(before), head)
	}
}

func TestRowsAreNotChanged(t *testing.T) {
	all := append(memorySessions(), handSessions()...)
	for _, l := range wrongForms() {
		all = append(all, withWaived(sessionOf(l, "name", oneOfEach()...), "b", "a"))
	}
	for _, before := range all {
		s := sessionApart(before)
		row := impl.RowOf(s)
		checkSessionApart(t, "the session", s, before)
		checkNew(t, "the row", row, s)
		scribbledSession(s)
		same(t, "the row, once more", impl.RowOf(before), row)
	}
}

func TestRowsKeepNoMemory(t *testing.T) {
	read := 0
	for _, before := range memorySessions() {
		l, text := itemsApart(before.Items), strings.Clone(impl.RowOf(before))
		got := impl.RowRead(l, text)
		same(t, "it is read", got.Code, int64(impl.OK))
		checkNew(t, "what is read", got, l, text)
		scribbled(got.Answers)
		checkItemsApart(t, "the form", l, before.Items)
		same(t, "the text", text, impl.RowOf(before))
		want := impl.RouteOf(before.Items, before.Answers).Known
		again := impl.RowRead(l, text)
		sameAnswers(t, "once more", again.Answers, want)
		scribbledItems(l)
		sameAnswers(t, "when the form is written over", again.Answers, want)
		read += len(want)
	}
	same(t, "many answers are read", read > 100, true)
}

// TestRowsOfSets: the codes of one answer do not reach into those of another one.
func TestRowsOfSets(t *testing.T) {
	l := []impl.Item{askOf("one", impl.TySet), askOf("two", impl.TySet), askOf("three", impl.TySet)}
	text := strings.Clone("{1,2};{1,2};{1,2};full")
	got := impl.RowRead(l, text)
	checkNew(t, "three sets", got, l, text)
	for at := range got.Answers {
		scribbled(got.Answers[at : at+1 : at+1])
		for _, a := range got.Answers[at+1:] {
			sameValue(t, a.Name, a.Value, choices(1, 2))
		}
	}
	// Of one list that stands in two answers the row is told, and the list is as it was.
	codes := []int64{1, 2}
	s := sessionOf(l, "", answer("one", choices(codes...)), answer("two", choices(codes...)), answer("three", choices(codes...)))
	same(t, "the row", impl.RowOf(s), "{1,2};{1,2};{1,2};full")
	same(t, "the codes", slices.Equal(codes, []int64{1, 2}), true)
}
