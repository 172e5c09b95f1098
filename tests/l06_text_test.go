package tests

import (
	"fmt"
	"math/rand"
	"slices"
	"strconv"
	"strings"
	"testing"

	"loop.example/g00561/impl"
)

func TestPromise10Text(t *testing.T) {
	same(t, "none", impl.FormText(nil), "")
	same(t, "an empty list", impl.FormText([]impl.Item{}), "")
	same(t, "the desk's", impl.FormText(deskItems()), deskText)
	for _, l := range rightForms() {
		same(t, shown(l), impl.FormText(l), linesOf(l))
	}
	for _, l := range slices.Concat(wrongForms(), longForms()) {
		same(t, shown(l), impl.FormText(l), "")
	}
}

// kindTexts is a form with each Kind and Type in it, line by line.
func kindTexts() ([]impl.Item, []string) {
	return []impl.Item{
		ask("i", impl.TyInt, -mostNum, mostNum, "How many?"), ask("c", impl.TyCode, 1, 20, "Which one?"), ask("s", impl.TySet, 1, 1, "{i} of: a, b"), ask("t", impl.TyText, 0, 40, ": ?"),
		compute("k", two(impl.ExTimes, field("i"), num(-2))), when(two(impl.ExAnd, known("t"), has("s", 7))), check("x", not(known("k")), "x : y"), otherwise(),
		must("y", below(field("k"), field("c")), ":"), end(), compute("n", num(-3)), ask("z9_", impl.TyInt, 0, 0, "a  b"),
	}, []string{
		"ask i int -1000000 1000000 How many?", "ask c code 1 20 Which one?", "ask s set 1 1 {i} of: a, b", "ask t text 0 40 : ?",
		"compute k (i * -2)", "if (known(t) & has(s,7))", "check x !known(k) : x : y", "else",
		"must y (k < c) : :", "end", "compute n -3", "ask z9_ int 0 0 a  b",
	}
}

func TestPromise10TextByHand(t *testing.T) {
	l, lines := kindTexts()
	text := strings.Join(lines, "\n") + "\n"
	same(t, "each Kind", impl.FormText(l), text)
	checkFormRead(t, text, l)
	for count := range 5 {
		head := strings.Join(append(slices.Clone(lines[:count]), ""), "\n")
		same(t, "the first ones", impl.FormText(l[:count]), head)
		checkFormRead(t, head, l[:count])
	}
}

// formOfSize is a right form whose text has so many bytes, from some 6000 to some 9000.
func formOfSize(size int) []impl.Item {
	l := []impl.Item{ask("sssssssssssssssssss1", impl.TySet, 1, 20, "?")}
	in := has("sssssssssssssssssss1", 20)
	for at := 1; at < mostItems; at++ {
		n := two(impl.ExAnd, two(impl.ExAnd, two(impl.ExOr, in, in), two(impl.ExOr, in, in)), two(impl.ExAnd, two(impl.ExOr, in, in), two(impl.ExOr, in, in)))
		l = append(l, must(fmt.Sprintf("mmmmmmmmmmmmmmmmmm%02d", at), n, "?"))
	}
	left := size - len(linesOf(l))
	for at := range l {
		more := min(59, max(left, 0))
		l[at].Text = "?" + strings.Repeat("x", more)
		left -= more
	}
	return l
}

func TestPromise10TextSize(t *testing.T) {
	for _, size := range []int{7000, 7999, 8000, 8001, 8002} {
		l := formOfSize(size)
		text := linesOf(l)
		same(t, "the size", len(text), size)
		checkForm(t, fmt.Sprintf("%d bytes", size), l, true)
		if size > impl.MaxBytes {
			same(t, fmt.Sprintf("%d bytes", size), impl.FormText(l), "")
			checkNoForm(t, text, 0, impl.ErrSize)
			continue
		}
		same(t, fmt.Sprintf("%d bytes", size), impl.FormText(l), text)
		checkFormRead(t, text, l)
	}
	longest := formOfSize(100000)
	checkForm(t, "the longest Texts", longest, true)
	same(t, "the longest Texts", impl.FormText(longest), "")
}

func checkFormRead(t *testing.T, text string, want []impl.Item) {
	t.Helper()
	got := impl.FormRead(text)
	same(t, shown(text)+": the code", got.Code, int64(impl.OK))
	same(t, shown(text)+": the line", got.Line, int64(0))
	sameItems(t, shown(text), got.Items, want)
}

func checkNoForm(t *testing.T, text string, line, code int64) {
	t.Helper()
	got := impl.FormRead(text)
	same(t, shown(text)+": the code", got.Code, code)
	same(t, shown(text)+": the line", got.Line, line)
	same(t, shown(text)+": the items beside it", len(got.Items), 0)
}

func TestPromise10Back(t *testing.T) {
	checkFormRead(t, "", nil)
	checkFormRead(t, deskText, deskItems())
	for _, l := range append(rightForms(), randomForms(104, 3000)...) {
		text := impl.FormText(l)
		checkFormRead(t, text, l)
		same(t, "the text of what is read", impl.FormText(impl.FormRead(text).Items), text)
	}
}

func TestPromise10DeskForm(t *testing.T) {
	sameItems(t, "the desk's form", impl.DeskForm(), deskItems())
	sameItems(t, "what is read of its lines", impl.FormRead(deskText).Items, impl.DeskForm())
	same(t, "its text", impl.FormText(impl.DeskForm()), deskText)
	scribbledItems(impl.DeskForm())
	sameItems(t, "the desk's form, once more", impl.DeskForm(), deskItems())
}

// strictItem takes a line by patterns, as the document has it; its Expr is read by the program, whose promise 7 is tested by itself.
func strictItem(line string) (impl.Item, bool) {
	var f impl.Item
	if line == "else" {
		return otherwise(), true
	}
	if line == "end" {
		return end(), true
	}
	if m := lineAsk.FindStringSubmatch(line); m != nil {
		low, first := strconv.ParseInt(m[3], 10, 64)
		high, second := strconv.ParseInt(m[4], 10, 64)
		for kind, word := range wordsOfTypes {
			if word == m[2] {
				f = ask(m[1], kind, low, high, m[5])
			}
		}
		return f, first == nil && second == nil && boundsMade(f.Type, low, high)
	}
	if m := lineIf.FindStringSubmatch(line); m != nil {
		f = impl.Item{Kind: impl.ItIf, Expr: impl.ExprRead(m[1]).Expr}
		return f, impl.ExprTruth(f.Expr)
	}
	if m := lineCheck.FindStringSubmatch(line); m != nil {
		f = impl.Item{Kind: impl.ItCheck, Name: m[2], Expr: impl.ExprRead(m[3]).Expr, Text: m[4], Hard: m[1] == "must"}
		return f, impl.ExprTruth(f.Expr)
	}
	if m := lineCompute.FindStringSubmatch(line); m != nil {
		f = impl.Item{Kind: impl.ItCompute, Name: m[1], Expr: impl.ExprRead(m[2]).Expr}
		return f, tellsNumber(f.Expr)
	}
	return f, false
}

func strictForm(text string) impl.FormOut {
	feeds := strings.Count(text, "\n")
	if len(text) > impl.MaxBytes {
		return impl.FormOut{Code: impl.ErrSize}
	}
	if text != "" && !strings.HasSuffix(text, "\n") {
		return impl.FormOut{Line: int64(feeds), Code: impl.ErrSyntax}
	}
	var out []impl.Item
	for i, line := range strings.SplitAfter(text, "\n")[:feeds] {
		f, ok := strictItem(line[:len(line)-1])
		if !ok {
			return impl.FormOut{Line: int64(i), Code: impl.ErrSyntax}
		}
		out = append(out, f)
	}
	if !formMade(out) {
		return impl.FormOut{Code: impl.ErrForm}
	}
	return impl.FormOut{Items: out}
}

// checkFormStrictly tells the code, so that a test can count how many of each there were.
func checkFormStrictly(t *testing.T, text string) int64 {
	t.Helper()
	got, want := impl.FormRead(text), strictForm(text)
	if got.Code != want.Code || got.Line != want.Line {
		t.Errorf("%q: got code %d, line %d, want %d, %d", text, got.Code, got.Line, want.Code, want.Line)
	}
	sameItems(t, "strictly", got.Items, want.Items)
	return want.Code
}

func TestPromise10ReadTurned(t *testing.T) {
	pieces := []string{" ", "  ", "\n", "\n\n", ":", " : ", "0", "1", "-", "a", "_", "A", "(", ")", "!", "\t", "\r", "\x00", "\x7f", "\xff", "é", "end\n", "else\n", "foo\n", "int", "must "}
	var counts [13]int
	_, lines := kindTexts()
	for _, text := range []string{deskText, strings.Join(lines, "\n") + "\n", "ask a int 0 5 A?\nif (a = 1)\nend\n"} {
		for at := range len(text) + 1 {
			for _, p := range pieces {
				counts[checkFormStrictly(t, text[:at]+p+text[at:])]++
				if at < len(text) {
					counts[checkFormStrictly(t, text[:at]+p+text[at+1:])]++
				}
			}
			counts[checkFormStrictly(t, text[:at])]++
			counts[checkFormStrictly(t, text[at:])]++
			if at < len(text) {
				counts[checkFormStrictly(t, text[:at]+text[at+1:])]++
			}
		}
	}
	for _, code := range []int64{impl.OK, impl.ErrForm, impl.ErrSyntax} {
		same(t, fmt.Sprintf("many of code %d: %d", code, counts[code]), counts[code] > 500, true)
	}
}

func TestPromise10ReadLines(t *testing.T) {
	r := rand.New(rand.NewSource(105))
	lines := []string{
		"ask a int 0 5 A?", "ask b set 1 5 B?", "ask c text 0 5 C?", "ask d code 1 5 D?", "if (a = 1)", "if has(b,1)", "if known(c)", "else", "end", "compute e (a + d)", "check f known(e) : F", "must g (e < 9) : G", "if (1 = 1)", "end", "end",
		"ask a int 5 0 A?", "", "foo", "if a", "compute h known(a)",
	}
	var counts [13]int
	for range 100000 {
		text := ""
		most := len(lines) - 5*r.Intn(2)
		for range r.Intn(6) {
			text += lines[r.Intn(most)] + "\n"
		}
		if r.Intn(8) == 0 {
			text += lines[r.Intn(len(lines))]
		}
		counts[checkFormStrictly(t, text)]++
	}
	for _, code := range []int64{impl.OK, impl.ErrForm, impl.ErrSyntax} {
		same(t, fmt.Sprintf("many of code %d: %d", code, counts[code]), counts[code] > 5000, true)
	}
}
