package tests

import (
	"fmt"
	"slices"
	"strings"
	"testing"

	"loop.example/g00561/impl"
)

// rowOfWord is the document's word on the row of a right session.
func rowOfWord(s impl.Session) string {
	r := wayOf(s.Items, s.Answers)
	var cells []string
	for _, name := range fieldNames(s.Items) {
		cells = append(cells, impl.ValueText(answerIn(r.Known, name)))
	}
	status := "part"
	if r.Done && len(pendingOf(s, r)) == 0 {
		status = "full"
	}
	return rowWord(append(cells, status))
}

func checkRow(t *testing.T, what string, s impl.Session, want string) {
	t.Helper()
	checkSession(t, what, s, true)
	same(t, what, impl.RowOf(s), want)
	same(t, what+": the document's word", rowOfWord(s), want)
}

func TestPromise20Desk(t *testing.T) {
	desk := deskItems()
	name, age := answer("name", words("Ann")), answer("age", integer(30))
	broken := withPut(deskGrown(), "age", integer(118))
	for _, c := range []struct {
		what string
		at   string
		a    []impl.Answer
		want string
	}{
		{"nothing yet", "name", nil, ";;;;;;part"}, {"at the first, others told", "name", deskGrown()[:2], ";;;;;;part"}, {"one", "age", namely(name), `"Ann";;;;;;part`}, {"two", "work", namely(name, age), `"Ann";30;;;;;part`}, {"two, gone back", "name", namely(name, age), `"Ann";30;;;;;part`},
		{"three", "likes", namely(name, age, answer("work", choice(3))), `"Ann";30;#3;;;;part`}, {"done", "", deskGrown(), `"Ann";30;#2;;;{1,4};full`}, {"done, gone back", "name", deskGrown(), `"Ann";30;#2;;;{1,4};full`},
		{"not of age", "school", namely(name, answer("age", integer(17))), `"Ann";17;;;;;part`}, {"what is left is known", "likes", namely(answer("name", words("Bob")), answer("age", integer(10)), answer("school", integer(5))), `"Bob";10;;5;8;;part`}, {"done, not of age", "", deskYoung(), `"Bob";10;;5;8;{};full`},
		{"school is off", "", withPut(deskGrown(), "school", integer(5)), `"Ann";30;#2;;;{1,4};full`}, {"work is off", "", withPut(deskYoung(), "work", choice(1)), `"Bob";10;;5;8;{};full`}, {"no name is there", "name", deskYoung()[:2], ";;;;;;part"},
		{"no name is told", "age", namely(answer("name", dont())), "DK;;;;;;part"}, {"no age is told", "school", namely(answer("name", refuse()), answer("age", dont())), "RF;DK;;;;;part"}, {"no school is told", "", withPut(deskYoung(), "school", dont()), `"Bob";10;;DK;;{};full`}, {"none is told", "", namely(answer("name", refuse()), answer("age", refuse()), answer("school", refuse()), answer("likes", refuse())), "RF;RF;;RF;;RF;full"},
		{"young is broken", "", broken, `"Ann";118;#2;;;{1,4};part`}, {"both are broken", "", deskOld(), `"Ann";120;#2;;;{1,4};part`}, {"sane is not waived", "likes", deskOld(), `"Ann";120;#2;;;{1,4};part`}, {"at no name", "nam", deskGrown(), ""}, {"off the path", "school", deskGrown(), ""}, {"at the end, and not done", "", deskGrown()[:2], ""},
		{"marks", "", withPut(deskGrown(), "name", words(`a;b\c`)), `"a\;b\\c";30;#2;;;{1,4};full`}, {"marks alone", "", withPut(deskGrown(), "name", words(`;\\;";;"\`)), `"\;\\\\\;""\;\;""\\";30;#2;;;{1,4};full`}, {"an empty name", "", withPut(deskGrown(), "name", words("")), `"";30;#2;;;{1,4};full`},
	} {
		s := sessionOf(desk, c.at, c.a...)
		if c.want == "" {
			checkSession(t, c.what, s, false)
			same(t, c.what, impl.RowOf(s), "")
			continue
		}
		checkRow(t, c.what, s, c.want)
	}
	checkRow(t, "young is waived", withWaived(sessionOf(desk, "", broken...), "young"), `"Ann";118;#2;;;{1,4};full`)
	checkRow(t, "young is waived, and not done", withWaived(sessionOf(desk, "likes", broken[0], broken[2], broken[3]), "young"), `"Ann";118;#2;;;;part`)
	checkRow(t, "young is waived, sane is pending", withWaived(sessionOf(desk, "", deskOld()...), "young"), `"Ann";120;#2;;;{1,4};part`)
	checkRow(t, "young is waived, and not broken", withWaived(sessionOf(desk, "age", deskGrown()...), "young"), `"Ann";30;#2;;;{1,4};full`)
}

func TestPromise20Status(t *testing.T) {
	soft, hard, a, told := check("soft", never(), "?"), must("hard", never(), "?"), askInt("a"), answer("a", integer(4))
	for _, c := range []struct {
		what string
		s    impl.Session
		want string
	}{
		{"an empty form", impl.Session{}, "full"}, {"a soft one", sessionOf([]impl.Item{soft}, ""), "part"}, {"a soft one, waived", withWaived(sessionOf([]impl.Item{soft}, ""), "soft"), "full"}, {"a hard one", sessionOf([]impl.Item{hard}, ""), "part"}, {"a hard one, the soft one waived", withWaived(sessionOf([]impl.Item{soft, hard}, ""), "soft"), "part"},
		{"passed by", sessionOf([]impl.Item{a, when(never()), hard, soft, end()}, "", told), "4;full"}, {"not come to", sessionOf([]impl.Item{a, hard}, "a"), ";part"}, {"come to", sessionOf([]impl.Item{a, hard}, "a", told), "4;part"}, {"dark is not broken", sessionOf([]impl.Item{a, must("it", below(field("a"), num(0)), "?")}, "", answer("a", dont())), "DK;full"}, {"wrong is not broken", sessionOf([]impl.Item{must("it", two(impl.ExSame, over(), num(1)), "?")}, ""), "full"},
	} {
		checkRow(t, c.what, c.s, c.want)
	}
}

// TestPromise20Computed: what is computed has a cell, whether it is known or not, and whatever was handed in of it.
func TestPromise20Computed(t *testing.T) {
	least := num(-mostNum)
	for _, c := range []struct {
		what string
		l    []impl.Item
		want string
	}{
		{"known", []impl.Item{compute("k", num(5))}, "5;full"}, {"below 0", []impl.Item{compute("k", num(-5))}, "-5;full"}, {"the greatest", []impl.Item{compute("k", two(impl.ExTimes, num(1000), num(mostNum)))}, "1000000000;full"}, {"one more", []impl.Item{compute("k", two(impl.ExPlus, num(1), two(impl.ExTimes, num(1000), num(mostNum))))}, ";full"}, {"the least", []impl.Item{compute("k", two(impl.ExTimes, num(1000), least))}, "-1000000000;full"}, {"one less", []impl.Item{compute("k", two(impl.ExMinus, two(impl.ExTimes, num(1000), least), num(1)))}, ";full"},
		{"wrong", []impl.Item{compute("k", over())}, ";full"}, {"off the path", []impl.Item{when(never()), compute("k", num(1)), end(), compute("j", num(2))}, ";2;full"}, {"of one that is dark", []impl.Item{compute("k", over()), compute("j", field("k"))}, ";;full"}, {"in a chain", []impl.Item{compute("k", num(2)), compute("j", two(impl.ExTimes, field("k"), field("k")))}, "2;4;full"}, {"behind what is asked", []impl.Item{compute("k", num(2)), askInt("a"), compute("j", num(3))}, "2;;;part"},
	} {
		s := impl.SessionNew(c.l).Session
		checkRow(t, c.what, s, c.want)
	}
}

// TestPromise20Values: each Value that may be told stands in its cell as its text.
func TestPromise20Values(t *testing.T) {
	for _, f := range []impl.Item{ask("a", impl.TyInt, -mostNum, mostNum, "?"), ask("a", impl.TyCode, 1, 20, "?"), ask("a", impl.TySet, 1, 20, "?"), ask("a", impl.TyText, 0, 40, "?")} {
		l := []impl.Item{askInt("b"), f, askInt("c")}
		three, four := answer("b", integer(3)), answer("c", integer(4))
		for _, w := range allWritten() {
			a := withPut([]impl.Answer{three, four}, "a", w.value)
			if fitting(f, w.value) {
				checkRow(t, w.text, sessionOf(l, "", a...), "3;"+rowWord([]string{w.text})+";4;full")
				checkRow(t, w.text+", at the one behind", sessionOf(l, "c", a[:2]...), "3;"+rowWord([]string{w.text})+";;part")
			} else {
				same(t, w.text+" does not fit", impl.RowOf(sessionOf(l, "a", a...)), "")
			}
		}
	}
	for _, text := range []string{";", `\`, `;;`, `\\`, `\;`, `;\`, `";"`, `"\"`, `a;\";b`, strings.Repeat(";", 40), strings.Repeat(`\`, 40), strings.Repeat(`"`, 40), strings.Repeat(`;\`, 20), "DK", "RF", "full", "part", "{1}", "#1", "7", ""} {
		s := sessionOf([]impl.Item{askOf("a", impl.TyText)}, "", answer("a", words(text)))
		s.Items[0].High = 40
		checkRow(t, text, s, rowWord([]string{`"` + strings.ReplaceAll(text, `"`, `""`) + `"`, "full"}))
	}
}

func TestPromise20Longest(t *testing.T) {
	for _, one := range []string{`"`, `\`, ";", "a"} {
		var l []impl.Item
		var a []impl.Answer
		for at := range mostItems {
			l = append(l, ask(nameAt(at), impl.TyText, 0, 40, "?"))
			a = append(a, answer(nameAt(at), words(strings.Repeat(one, 40))))
		}
		cell := `"` + strings.Repeat(one, 40) + `"`
		if one != "a" {
			double := map[string]string{`"`: `""`, `\`: `\\`, ";": `\;`}[one]
			cell = `"` + strings.Repeat(double, 40) + `"`
		}
		checkRow(t, "24 of "+one, sessionOf(l, "", a...), strings.Repeat(cell+";", mostItems)+"full")
		checkRow(t, "12 of "+one, sessionOf(l, nameAt(12), a[:12]...), strings.Repeat(cell+";", 12)+strings.Repeat(";", 12)+"part")
	}
}

func TestPromise20NotRight(t *testing.T) {
	for _, l := range slices.Concat(wrongForms(), longForms()) {
		for _, at := range []string{"", "a", "name", "n01"} {
			same(t, shown(l), impl.RowOf(sessionOf(l, at)), "")
		}
	}
	desk := sessionOf(deskItems(), "", deskGrown()...)
	for _, s := range []impl.Session{
		withAt(desk, "zzz"), withAt(desk, "young"), withAt(desk, tooLong()), withWaived(desk, "sane"), withWaived(desk, "young", "young"), withWaived(desk, "zzz"), withAnswers(desk), withAnswers(desk, deskGrown()[1], deskGrown()[0]),
		withPutIn(desk, "left", integer(1)), withPutIn(desk, "age", integer(121)), withPutIn(desk, "zzz", dont()), withItems(desk, append(deskItems(), end())), withItems(desk, nil), {At: "a"}, {Waived: []string{"a"}}, {Answers: oneOfEach()},
	} {
		same(t, shown(s)+": is it right", sessionMade(s), false)
		same(t, shown(s), impl.RowOf(s), "")
	}
	for _, a := range slices.Concat(wrongAnswers(), longAnswers()) {
		same(t, shown(a), impl.RowOf(withAnswers(sessionOf([]impl.Item{askInt("a"), askInt("b"), askInt("c")}, "a"), a...)), "")
	}
}

// withMarks has each text told be of as many bytes that need a mark, and of others.
func withMarks(s impl.Session) impl.Session {
	s.Answers = slices.Clone(s.Answers)
	for i, a := range s.Answers {
		if a.Value.Kind == impl.VaText {
			f := itemOf(s.Items, a.Name)
			s.Answers[i].Value = words((`;\` + a.Value.Text + `\";`)[:min(int(f.High), 5+len(a.Value.Text))])
		}
	}
	return s
}

// rowSessions are right, and many have texts in which there are marks.
func rowSessions(seed int64, count int) []impl.Session {
	var out []impl.Session
	for _, s := range append(drawnSessions(seed, count), handSessions()...) {
		out = append(out, s, withMarks(s))
	}
	return out
}

func TestPromise20Drawn(t *testing.T) {
	full, part, marks, off := 0, 0, 0, 0
	for _, s := range rowSessions(222, 150) {
		checkRow(t, shown(s), s, rowOfWord(s))
		row := impl.RowOf(s)
		cells := impl.CellsRead(row)
		same(t, "as many cells as the head has", len(cells), len(impl.CellsRead(impl.HeadOf(s.Items))))
		last := len(cells) - 1
		known := impl.RouteOf(s.Items, s.Answers).Known
		for at, name := range fieldNames(s.Items) {
			same(t, "the cell of "+name, cells[at], impl.ValueText(answerIn(known, name)))
			if cells[at] == "" && answerIn(s.Answers, name).Kind != impl.VaNone {
				off++
			}
		}
		same(t, "the last cell tells whether it is complete", cells[last] == "full", impl.Complete(s).Code == impl.OK)
		if cells[last] == "full" {
			full++
		} else {
			part++
		}
		if strings.Contains(row, `\`) {
			marks++
		}
		// What lies off the Path changes nothing in the row.
		path := impl.RouteOf(s.Items, s.Answers).Path
		on := slices.DeleteFunc(slices.Clone(s.Answers), func(a impl.Answer) bool { return !slices.Contains(path, a.Name) })
		same(t, "without what lies off the Path", impl.RowOf(withAnswers(s, on...)), row)
	}
	same(t, fmt.Sprintf("many of all: %d, %d, %d, %d", full, part, marks, off), full > 500 && part > 500 && marks > 200 && off > 200, true)
}
