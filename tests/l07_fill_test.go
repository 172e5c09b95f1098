package tests

import (
	"fmt"
	"regexp"
	"slices"
	"strings"
	"testing"

	"loop.example/g00561/impl"
)

var inBraces = regexp.MustCompile(`\{(` + namePattern + `)\}`)

// filledBy is the document's word on a text, by what is Known.
func filledBy(text string, known []impl.Answer) string {
	return inBraces.ReplaceAllStringFunc(text, func(piece string) string {
		switch v := answerIn(known, piece[1:len(piece)-1]); v.Kind {
		case impl.VaNone:
			return "?"
		case impl.VaText:
			return v.Text
		default:
			return impl.ValueText(v)
		}
	})
}

// saying are forms in which that Text stands, as that of "it", and nothing else is asked ahead of it but what is in ahead.
func saying(text string, ahead []impl.Item) [][]impl.Item {
	asks := askInt("it")
	asks.Text = text
	return [][]impl.Item{
		append(slices.Clone(ahead), check("it", always(), text)), append(slices.Clone(ahead), must("it", never(), text)), append(slices.Clone(ahead), asks),
		append(slices.Clone(ahead), when(never()), must("it", never(), text), end()), append(slices.Clone(ahead), when(never()), asks, otherwise(), end()),
	}
}

func checkFill(t *testing.T, text string, ahead []impl.Item, a []impl.Answer, want string) {
	t.Helper()
	for i, l := range saying(text, ahead) {
		same(t, fmt.Sprintf("%q, %d", text, i), impl.FillOf(l, a, "it"), want)
	}
}

func TestPromise12Desk(t *testing.T) {
	desk := deskItems()
	young := namely(answer("age", integer(10)), answer("name", words("Ann")), answer("school", integer(5)), answer("work", choice(1)))
	grown := namely(answer("age", integer(30)), answer("name", words("Bob")))
	for _, c := range []struct {
		name string
		a    []impl.Answer
		want string
	}{
		{"name", nil, "Who are you?"}, {"name", young, "Who are you?"}, {"age", nil, "How old is ??"}, {"age", young, "How old is Ann?"}, {"age", grown, "How old is Bob?"}, {"work", young, "Work?"}, {"school", grown, "Class?"}, {"likes", nil, "Which?"},
		{"young", young, "Ann is 10?"}, {"young", grown, "Bob is 30?"}, {"young", nil, "? is ??"}, {"young", namely(answer("name", dont())), "DK is ??"}, {"young", namely(answer("name", refuse()), answer("age", dont())), "RF is DK?"}, {"young", namely(answer("age", integer(10))), "? is ??"},
		{"sane", young, "10?"}, {"sane", nil, "??"}, {"sane", namely(answer("name", words("")), answer("age", integer(121))), "??"},
		{"left", young, ""}, {"left", nil, ""}, {"", nil, ""}, {"", young, ""}, {"x", young, ""}, {"ag", young, ""}, {"ages", young, ""}, {"Age", young, ""}, {"{age}", young, ""}, {"name ", young, ""}, {tooLong(), young, ""}, {tooLong()[1:], nil, ""},
	} {
		same(t, shown(c.name), impl.FillOf(desk, c.a, c.name), c.want)
	}
}

func TestPromise12Names(t *testing.T) {
	for _, w := range slices.Concat(handWays(), randomWays(121, 200)) {
		known := wayOf(w.l, w.a).Known
		for _, f := range w.l {
			if f.Name == "" {
				continue
			}
			// An ItCompute has no Text.
			same(t, f.Name, impl.FillOf(w.l, w.a, f.Name), filledBy(f.Text, known))
			same(t, "none", impl.FillOf(w.l, w.a, besideOf(f.Name)), "")
		}
		for _, name := range append(slices.Clone(notNames), "zzz", "f24", tooLong()) {
			same(t, shown(name), impl.FillOf(w.l, w.a, name), "")
		}
	}
}

func TestPromise12NoBraces(t *testing.T) {
	plain := strings.NewReplacer("{", "", "}", "").Replace(plainBytes())
	ahead := []impl.Item{ask("a", impl.TyText, 0, 40, "?")}
	for _, text := range []string{plain[1:61], plain[33:], "a", "?", "a  b", "(a)", "[a]", "$a", "%a %s", `\`, `"a"`, strings.Repeat("a", 60), "Who are you?"} {
		for _, a := range [][]impl.Answer{nil, namely(answer("a", words("Ann"))), namely(answer("a", dont()), answer("it", integer(1)))} {
			checkFill(t, text, ahead, a, text)
		}
	}
}

func TestPromise12Kinds(t *testing.T) {
	ahead := []impl.Item{ask("i", impl.TyInt, -mostNum, mostNum, "?"), ask("c", impl.TyCode, 1, 20, "?"), ask("s", impl.TySet, 1, 20, "?"), ask("t", impl.TyText, 0, 40, "?")}
	asks := map[int64]string{impl.VaInt: "i", impl.VaCode: "c", impl.VaSet: "s", impl.VaText: "t"}
	silent := namely(answer("i", refuse()), answer("c", refuse()), answer("s", refuse()), answer("t", refuse()))
	for _, w := range allWritten() {
		names := []string{"i", "c", "s", "t"}
		if name := asks[w.value.Kind]; name != "" {
			names = []string{name}
		}
		for _, name := range names {
			if w.value.Kind == impl.VaInt && !fitting(ahead[0], w.value) {
				continue
			}
			a, want := withPut(silent, name, w.value), w.text
			switch w.value.Kind {
			case impl.VaNone:
				a, want = slices.DeleteFunc(a, func(a impl.Answer) bool { return a.Name == name }), "?"
			case impl.VaText:
				want = w.value.Text
			}
			checkFill(t, "{"+name+"}", ahead, a, want)
			checkFill(t, "It is {"+name+"}, or {"+name+"}?", ahead, a, "It is "+want+", or "+want+"?")
		}
	}
}

func TestPromise12NotKnown(t *testing.T) {
	ahead := []impl.Item{askInt("a"), when(below(field("a"), num(0))), askInt("off"), compute("coff", num(1)), end(), compute("dark", two(impl.ExPlus, field("off"), num(1))), compute("k", two(impl.ExPlus, field("a"), num(1))), check("c", never(), "?"), askInt("b")}
	a := namely(answer("a", integer(4)), answer("off", integer(1)), answer("coff", integer(1)), answer("dark", integer(1)), answer("c", integer(1)), answer("zz", integer(1)), answer("k", integer(9)), answer("b", integer(6)))
	for text, want := range map[string]string{
		"{a}": "4", "{k}": "5", "{b}": "?", "{off}": "?", "{coff}": "?", "{dark}": "?", "{c}": "?", "{zz}": "?", "{it}": "?", "{no}": "?", "{aa}": "?", "{a_}": "?", "{" + strings.Repeat("z", 20) + "}": "?",
		"{a}{off}{k}": "4?5", "{off}{zz}{b}": "???",
	} {
		checkFill(t, text, ahead, a, want)
	}
}

// TestPromise12Behind: what is put in is what is Known by all of the way, not by what is ahead.
func TestPromise12Behind(t *testing.T) {
	first := askInt("it")
	first.Text = "{it} {b} {k} {c}?"
	l := []impl.Item{first, check("c", always(), "{it} {b} {k}?"), when(never()), must("m", always(), "{b}{k}"), end(), askInt("b"), compute("k", field("b")), askInt("last")}
	a := namely(answer("it", integer(1)), answer("b", integer(2)), answer("last", integer(7)))
	same(t, "of itself, and behind", impl.FillOf(l, a, "it"), "1 2 2 ??")
	same(t, "of a check", impl.FillOf(l, a, "c"), "1 2 2?")
	same(t, "of one that is passed by", impl.FillOf(l, a, "m"), "22")
	a = namely(answer("it", integer(1)), answer("b", integer(9)))
	same(t, "b does not fit", impl.FillOf(l, a, "it"), "1 ? ? ??")
	same(t, "nothing yet", impl.FillOf(l, nil, "it"), "? ? ? ??")
	same(t, "of one behind the Current one", impl.FillOf(l, nil, "m"), "??")
}

func TestPromise12Braces(t *testing.T) {
	long := strings.Repeat("n", 20)
	ahead := []impl.Item{askInt("a"), ask("b", impl.TyText, 0, 40, "?"), askInt(long)}
	a := namely(answer("a", integer(4)), answer("b", words("Bob")), answer(long, integer(5)))
	for text, want := range map[string]string{
		"{a}": "4", "{b}": "Bob", "{a}{b}": "4Bob", "{b}{a}": "Bob4", "{a} {b}": "4 Bob", "x{a}": "x4", "{a}x": "4x", "{a}{a}{a}": "444", "a{a}a": "a4a",
		"{": "{", "}": "}", "{}": "{}", "}{": "}{", "{{": "{{", "}}": "}}", "{{}}": "{{}}", "{a": "{a", "a}": "a}", "}a{": "}a{", "}a}": "}a}", "{a{": "{a{",
		"{{a}}": "{4}", "{{a}": "{4", "{a}}": "4}", "{{{a}}}": "{{4}}", "{a{a}a}": "{a4a}", "{b{a}": "{b4", "{a}b}": "4b}", "}{a}{": "}4{", "{}{a}": "{}4", "{a}{}": "4{}", "{a}{": "4{", "}{a}": "}4",
		"{A}": "{A}", "{1}": "{1}", "{_a}": "{_a}", "{ a}": "{ a}", "{a }": "{a }", "{a b}": "{a b}", "{a,b}": "{a,b}", "{a-b}": "{a-b}", "{1,3}": "{1,3}", "{ }": "{ }", "{a.}": "{a.}", "{?}": "{?}", "{\"a\"}": "{\"a\"}",
		"{ {a}": "{ 4", "{A{a}}": "{A4}", "{ a} {a}": "{ a} 4", "{A}{b}": "{A}Bob", "a}{b}": "a}Bob", "{a {b}": "{a Bob", "(a) {a}": "(a) 4",
		"{" + long + "}": "5", "{" + long + "n}": "{" + long + "n}", "{" + long[1:] + "}": "?", "{" + long + "}{a}": "54", "{" + long + "n}{a}": "{" + long + "n}4",
		strings.Repeat("{b}", 20): strings.Repeat("Bob", 20), strings.Repeat("{", 57) + "{a}": strings.Repeat("{", 57) + "4", "{a}" + strings.Repeat("}", 57): "4" + strings.Repeat("}", 57), strings.Repeat("{", 60): strings.Repeat("{", 60),
	} {
		checkFill(t, text, ahead, a, want)
		same(t, text+": the document's word", filledBy(text, a), want)
	}
}

// TestPromise12Once: what is put in is not filled once more, not with what stands around it either.
func TestPromise12Once(t *testing.T) {
	ahead := []impl.Item{ask("a", impl.TyText, 0, 40, "?"), ask("b", impl.TyText, 0, 40, "?"), ask("s", impl.TySet, 1, 9, "?")}
	for _, c := range []struct{ a, b, text, want string }{
		{"{b}", "Bob", "{a}", "{b}"}, {"{a}", "Bob", "{a}", "{a}"}, {"{b}", "{a}", "{a}{b}", "{b}{a}"}, {"{", "Bob", "{a}b}", "{b}"}, {"}", "Bob", "{b{a}", "{b}"}, {"b", "Bob", "{{a}}", "{b}"},
		{"{", "b}", "{a}{b}", "{b}"}, {"{{b}}", "Bob", "{a} {b}", "{{b}} Bob"}, {"{s}", "{}", "{a}{b}{s}", "{s}{}{1,3}"}, {"", "Bob", "{{a}b}", "{b}"}, {"{b", "Bob", "{a}}{b}", "{b}Bob"}, {"{?}", "?", "{a}{b}", "{?}?"},
		{strings.Repeat("{b}", 13), "Bob", strings.Repeat("{a}", 20), strings.Repeat("{b}", 260)}, {strings.Repeat("x", 40), "", strings.Repeat("{a}", 20), strings.Repeat("x", 800)},
	} {
		a := namely(answer("a", words(c.a)), answer("b", words(c.b)), answer("s", choices(1, 3)))
		checkFill(t, c.text, ahead, a, c.want)
	}
}

// TestPromise12AllTexts: all texts of up to seven bytes of five.
func TestPromise12AllTexts(t *testing.T) {
	const bytes = "{}a1."
	known := namely(answer("a", words("}{")), answer("a1", integer(-5)), answer("aa", dont()))
	ahead := []impl.Item{ask("a", impl.TyText, 0, 40, "?"), askInt("a1"), askInt("aa")}
	for size := 1; size <= 7; size++ {
		count := 1
		for range size {
			count *= len(bytes)
		}
		for number := range count {
			text := make([]byte, size)
			for at, rest := 0, number; at < size; at, rest = at+1, rest/len(bytes) {
				text[at] = bytes[rest%len(bytes)]
			}
			l := append(slices.Clone(ahead), check("it", always(), string(text)))
			same(t, string(text), impl.FillOf(l, known, "it"), filledBy(string(text), known))
		}
	}
}
