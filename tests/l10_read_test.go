package tests

import (
	"fmt"
	"math/rand"
	"slices"
	"strings"
	"testing"

	"loop.example/g00561/impl"
)

func sameRow(t *testing.T, what string, got, want impl.RowOut) {
	t.Helper()
	same(t, what+": the code", got.Code, want.Code)
	same(t, what+": Full", got.Full, want.Full)
	sameAnswers(t, what+": Answers", got.Answers, want.Answers)
}

// rowReadWord is the document's word on a text that may be a row of a right form.
func rowReadWord(l []impl.Item, text string) impl.RowOut {
	names, cells := fieldNames(l), cellsWord(text)
	last := len(names)
	wrong := impl.RowOut{Code: impl.ErrSyntax}
	if len(cells) != last+1 || !cellsMade(cells) || rowWord(cells) != text || cells[last] != "full" && cells[last] != "part" {
		return wrong
	}
	out := impl.RowOut{Full: cells[last] == "full"}
	for at, name := range names {
		v := impl.ValueRead(cells[at])
		switch {
		case v.Code != impl.OK:
			return wrong
		case cells[at] != "":
			out.Answers = withPut(out.Answers, name, v.Value)
		}
	}
	return out
}

// checkRowRead is of a row that is read.
func checkRowRead(t *testing.T, l []impl.Item, text string, full bool, a ...impl.Answer) {
	t.Helper()
	want := impl.RowOut{Answers: namely(a...), Full: full}
	got := impl.RowRead(l, text)
	sameRow(t, shown(text), got, want)
	sameRow(t, shown(text)+": the document's word", rowReadWord(l, text), want)
	same(t, shown(text)+": Answers are right", impl.AnswersRight(got.Answers), true)
}

func checkNoRow(t *testing.T, l []impl.Item, text string, code int64) {
	t.Helper()
	sameRow(t, shown(text), impl.RowRead(l, text), impl.RowOut{Code: code})
}

func TestPromise20Read(t *testing.T) {
	desk := deskItems()
	name, age := answer("name", words("Ann")), answer("age", integer(30))
	checkRowRead(t, desk, ";;;;;;part", false)
	checkRowRead(t, desk, ";;;;;;full", true)
	checkRowRead(t, desk, `"Ann";;;;;;part`, false, name)
	checkRowRead(t, desk, `"Ann";30;;;;;part`, false, name, age)
	checkRowRead(t, desk, `"Ann";30;#2;;;{1,4};full`, true, deskGrown()...)
	checkRowRead(t, desk, `"Ann";30;#2;;;{1,4};part`, false, deskGrown()...)
	checkRowRead(t, desk, `"Bob";10;;5;8;{};full`, true, append(deskYoung(), answer("left", integer(8)))...)
	checkRowRead(t, desk, `;30;;;;;part`, false, age)
	checkRowRead(t, desk, `;;;;;{};part`, false, answer("likes", choices()))
	checkRowRead(t, desk, `"";DK;RF;;;;full`, true, answer("name", words("")), answer("age", dont()), answer("work", refuse()))
	checkRowRead(t, desk, `"a\;b\\c\\";-1;;;;;full`, true, answer("name", words(`a;b\c\`)), answer("age", integer(-1)))
	// A row does not ask whether its answers fit, nor whether they lie on one path.
	checkRowRead(t, desk, `#20;"x";{20};RF;"y";1000000000;full`, true, answer("name", choice(20)), answer("age", words("x")), answer("work", choices(20)), answer("school", refuse()), answer("left", words("y")), answer("likes", integer(mostInt)))
	for _, l := range [][]impl.Item{nil, {}, {check("soft", never(), "?"), must("hard", never(), "?")}} {
		checkRowRead(t, l, "full", true)
		checkRowRead(t, l, "part", false)
	}
	checkRowRead(t, []impl.Item{compute("k", num(1))}, "7;part", false, answer("k", integer(7)))
	checkRowRead(t, []impl.Item{askOf("a", impl.TyText)}, `"full";full`, true, answer("a", words("full")))
}

func TestPromise20ReadValues(t *testing.T) {
	l := []impl.Item{askInt("b"), askOf("a", impl.TySet), compute("c", num(1))}
	for _, w := range allWritten() {
		var some []impl.Answer
		if w.text != "" {
			some = []impl.Answer{answer("a", w.value)}
		}
		cell := rowWord([]string{w.text})
		checkRowRead(t, l, ";"+cell+";;part", false, some...)
		checkRowRead(t, l, "DK;"+cell+";RF;full", true, append(some, answer("b", dont()), answer("c", refuse()))...)
	}
}

func TestPromise20ReadCount(t *testing.T) {
	for count := range mostItems + 1 {
		l := manyItems(count)
		for cells := range 43 {
			ahead := strings.Repeat("1;", max(cells-1, 0))
			for _, text := range []string{ahead + "full", strings.ReplaceAll(ahead, "1", "") + "part", ahead, ahead + "full;"} {
				want := rowReadWord(l, text)
				sameRow(t, fmt.Sprintf("%d fields, %s", count, text), impl.RowRead(l, text), want)
				if cells == count+1 && strings.HasSuffix(text, "full") {
					same(t, "as many as there are", len(want.Answers), count)
				}
			}
		}
	}
}

func TestPromise20ReadRising(t *testing.T) {
	names := []string{"z", "b", "a_", "a0", "aa", "m", "a", "y9", "y10"}
	r := rand.New(rand.NewSource(223))
	for range 200 {
		r.Shuffle(len(names), func(i, j int) { names[i], names[j] = names[j], names[i] })
		var l []impl.Item
		var a []impl.Answer
		row := ""
		for at, name := range names {
			f := askInt(name)
			if r.Intn(3) == 0 {
				f = compute(name, num(1))
			}
			l = append(l, f)
			if r.Intn(4) > 0 {
				a = append(a, answer(name, integer(int64(at))))
				row += fmt.Sprint(at)
			}
			row += ";"
		}
		checkRowRead(t, l, row+"part", false, a...)
	}
}

func TestPromise20ReadWrong(t *testing.T) {
	desk, one := deskItems(), []impl.Item{askOf("a", impl.TyText)}
	for _, text := range []string{
		"", ";", ";;;;;part", ";;;;;;;part", ";;;;;;", "full", "part", ";;;;;;full;", ";;;;;;;", ";;;;;;Full", ";;;;;;FULL", ";;;;;;ful", ";;;;;;fulll", ";;;;;; full", ";;;;;;full ", ";;;;;;parts", ";;;;;;par", ";;;;;;status", ";;;;;;fullpart", `;;;;;;"full"`, ";;;;;;DK", ";;;;;;0", ";;;;;;full\n", "\n;;;;;;full", ";;;;;;\\full", ";;;;;;full\\", ";;;;;;fu\\ll", ";;;;;;\\\\full", ";;;;;\\;full",
		"x;;;;;;part", "name;age;work;school;left;likes;status", "Ann;30;;;;;part", `"Ann;30;;;;;part`, `Ann";30;;;;;part`, `"Ann";030;;;;;part`, `"Ann";+30;;;;;part`, `"Ann";30 ;;;;;part`, `"Ann"; 30;;;;;part`, `"Ann";30;2#;;;;part`, `"Ann";30;#0;;;;part`, `"Ann";30;#21;;;;part`, `"Ann";30;;;;{4,1};part`, `"Ann";30;;;;{1;4};part`, `"Ann";30;;;;{1,};part`, `"Ann";1000000001;;;;;part`, ";dk;;;;;part", ";none;;;;;part", "; ;;;;;part", `;;;;;" ;part`, `"a"b";;;;;;part`, "\"a\nb\";;;;;;part", "\"\xff\";;;;;;part", ";;\x00;;;;part", `"` + strings.Repeat("x", 41) + `";;;;;;part`,
		`"a;b";;;;;;part`, `"a;b";;;;;part`, `"a\b";;;;;;part`, `"a\\\b";;;;;;part`, `"\";;;;;;part`, `"\\\";;;;;;part`, `\"a";;;;;;part`, `"a\";;;;;;part`, `"a"\;;;;;;part`, `"a"\;;;;;;;part`, `"a";\30;;;;;part`, `"a";3\0;;;;;part`, `;;;;;;\part`, `\;;;;;;part`, `;\;;;;;part`, `\\;;;;;;part`, `;\;;;;;;part`,
		strings.Repeat("1", 101) + ";;;;;;part", strings.Repeat(";", 40) + "part", strings.Repeat(";", 39) + "part", strings.Repeat(";", impl.MaxList) + "part", strings.Repeat("a", impl.MaxBytes), strings.Repeat(";", impl.MaxBytes), strings.Repeat(`\`, impl.MaxBytes), sample(impl.MaxBytes), ";;;;;;" + strings.Repeat("f", 101), ";;;;;;full" + strings.Repeat(" ", 97),
	} {
		checkNoRow(t, desk, text, impl.ErrSyntax)
		sameRow(t, shown(text)+": the document's word", rowReadWord(desk, text), impl.RowOut{Code: impl.ErrSyntax})
	}
	for _, text := range []string{`"\a";full`, `"\\\a";full`, `"\";full`, `"\;full`, `";";full`, `";"`, `"a"full`, `"a"\;full`, `\"a";full`, `"a";\full`, `"a";full\`, `"a\n";part`, `"` + strings.Repeat(`\;`, 41) + `";full`, `"` + strings.Repeat("a", 99) + `";full`, strings.Repeat(`"`, 100) + ";full", strings.Repeat(`"`, 102) + ";full"} {
		checkNoRow(t, one, text, impl.ErrSyntax)
	}
	for _, text := range []string{"", ";", "x", "fullpart", "part;", ";part", "full;full", `\part`, `part\`, "full;", "Part", tooLong()[1:]} {
		checkNoRow(t, nil, text, impl.ErrSyntax)
	}
	checkNoRow(t, []impl.Item{askInt("a")}, "part", impl.ErrSyntax)
	checkNoRow(t, []impl.Item{askInt("a")}, "1;2;part", impl.ErrSyntax)
}

// TestPromise20ReadFaults: too long is told ahead of all else, and what is wrong with the form ahead of the text.
func TestPromise20ReadFaults(t *testing.T) {
	texts := []string{"", "full", ";part", ";;;;;;part", "x", `\`, tooLong()[1:], sample(impl.MaxBytes)}
	long := []string{tooLong(), strings.Repeat(";", impl.MaxBytes+1), strings.Repeat(`\`, 2*impl.MaxBytes), ";;;;;;part" + tooLong()}
	for _, l := range wrongForms() {
		for _, text := range texts {
			checkNoRow(t, l, text, impl.ErrForm)
		}
		for _, text := range long {
			checkNoRow(t, l, text, impl.ErrSize)
		}
	}
	for _, l := range longForms() {
		for _, text := range append(texts, long...) {
			checkNoRow(t, l, text, impl.ErrSize)
		}
	}
	for _, l := range rightForms() {
		for _, text := range long {
			checkNoRow(t, l, text, impl.ErrSize)
		}
		for _, text := range texts[4:] {
			checkNoRow(t, l, text, impl.ErrSyntax)
		}
	}
	checkNoRow(t, append(deskItems(), end()), ";;;;;;part", impl.ErrForm)
	checkNoRow(t, append(deskItems(), askInt("name")), ";;;;;;;part", impl.ErrForm)
}

// turnedRow is a row of which one thing may be another than it was.
func turnedRow(r *rand.Rand, row string) string {
	const bytes = `;\";,#{}019-DKRFa full` + "\n\xff"
	at, one := r.Intn(len(row)), bytes[r.Intn(len(bytes)):][:1]
	switch r.Intn(6) {
	case 0:
		return row[:at] + one + row[at:]
	case 1:
		return row[:at] + row[at+1:]
	case 2:
		return row[:at] + one + row[at+1:]
	case 3:
		return row[:at] + `\` + row[at:]
	}
	// One of its cells is that of any value, most of which do not change how many there are.
	cells := cellsWord(row)
	some := []string{"", "0", "-7", "#3", "{1,2}", `";"`, `"\"`, "DK", "RF", "full", "part", "01", "{2,1}", `"`, " "}
	cells[r.Intn(len(cells))] = some[r.Intn(len(some))]
	return rowWord(cells)
}

func TestPromise20ReadDrawn(t *testing.T) {
	r := rand.New(rand.NewSource(224))
	right, wrong, some := 0, 0, 0
	for _, s := range rowSessions(225, 100) {
		row := impl.RowOf(s)
		known := impl.RouteOf(s.Items, s.Answers).Known
		checkRowRead(t, s.Items, row, impl.Complete(s).Code == impl.OK, known...)
		if len(known) > 3 {
			some++
		}
		for range 10 {
			turned := turnedRow(r, row)
			want := rowReadWord(s.Items, turned)
			sameRow(t, shown(turned), impl.RowRead(s.Items, turned), want)
			if want.Code == impl.OK {
				right++
			} else {
				wrong++
			}
		}
	}
	same(t, fmt.Sprintf("many of all: %d, %d, %d", right, wrong, some), right > 2000 && wrong > 5000 && some > 300, true)
}

// TestPromise20ReadOther: what is a row of one form may be none of another one.
func TestPromise20ReadOther(t *testing.T) {
	forms := slices.Concat(rightForms(), randomForms(226, 20))
	read, not := 0, 0
	for _, s := range rowSessions(227, 5) {
		row := impl.RowOf(s)
		for _, l := range forms {
			want := rowReadWord(l, row)
			sameRow(t, shown(row), impl.RowRead(l, row), want)
			if want.Code == impl.OK {
				read++
			} else {
				not++
			}
		}
	}
	same(t, fmt.Sprintf("many of both: %d, %d", read, not), read > 500 && not > 5000, true)
}
