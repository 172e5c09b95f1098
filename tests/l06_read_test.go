package tests

import (
	"fmt"
	"slices"
	"strings"
	"testing"

	"loop.example/g00561/impl"
)

// noLines: lines that are no such Item, whatever stands around them.
func noLines() []string {
	out := []string{
		"", " ", "foo", "ASK a int 0 5 A?", "Ask a int 0 5 A?", "asks a int 0 5 A?", "ask", "ask ", "ask a", "ask a ", "ask a int", "ask a int 0", "ask a int 0 5", "ask a int 0 5 ", "ask a int 0 A?", "ask int 0 5 A?", "ask a 0 5 A?", "aska int 0 5 A?",
		"ask a int 5 0 A?", "ask a int 00 5 A?", "ask a int 0 05 A?", "ask a int -0 5 A?", "ask a int 0 -0 A?", "ask a int -01 5 A?", "ask a int +0 5 A?", "ask a int 0 +5 A?", "ask a int 0x0 5 A?", "ask a int 0 5.0 A?", "ask a int 0 5_0 A?", "ask a int 0 5e1 A?", "ask a int a 5 A?", "ask a int 0 a A?", "ask a int - 5 A?",
		"ask a int -1000001 5 A?", "ask a int 0 1000001 A?", "ask a int 0 18446744073709551617 A?", "ask a int -9223372036854775809 5 A?", "ask a int 99999999999999999999 5 A?", "ask a int 0 9223372036854775808 A?",
		"ask a code 0 5 A?", "ask a code 2 5 A?", "ask a code 1 0 A?", "ask a code 1 21 A?", "ask a code 01 5 A?", "ask a set 0 5 A?", "ask a set 2 5 A?", "ask a set 1 0 A?", "ask a set 1 21 A?", "ask a set 1 020 A?", "ask a text 1 5 A?", "ask a text 0 0 A?", "ask a text 0 41 A?", "ask a text -1 5 A?",
		"ask a in 0 5 A?", "ask a ints 0 5 A?", "ask a INT 0 5 A?", "ask a number 0 5 A?", "ask a Code 1 5 A?", "ask a sets 1 5 A?", "ask a txt 0 5 A?", "ask a  0 5 A?", "ask a 1 0 5 A?", "ask a ask 0 5 A?",
		"ask A int 0 5 A?", "ask _a int 0 5 A?", "ask 1a int 0 5 A?", "ask aaaaaaaaaaaaaaaaaaaaa int 0 5 A?", "ask a-b int 0 5 A?", "ask  int 0 5 A?", "ask \x00 int 0 5 A?",
		"ask a int 0 5 A\x1f?", "ask a int 0 5 A\x7f?", "ask a int 0 5 \x80", "ask a int 0 5 ä", "ask a int 0 5 A\t?", "ask a int 0 5 A?\r", "ask a int 0 5 " + strings.Repeat("x", 61), "ask a int 0 5 " + strings.Repeat("x", 400),
		"if", "if ", "if a", "if 1", "if (a + 1)", "if (a = 1", "if a = 1", "if (a=1)", "if (A = 1)", "if (a = 01)", "if ((a = 1))", "if foo(a)", "if has(a,0)", "if known(a) ", "if known(a) : A?", "ifknown(a)", "if known(a)\r", "If known(a)", "if a known(a)", "if (1000001 < a)",
		"else ", " else", "elses", "Else", "ELSE", "else if known(a)", "else a", "else\r", "else:", "end ", " end", "ends", "End", "END", "end a", "end if", "end\x00", "endif", "fi",
		"check", "check ", "check f", "check f ", "check f (1 = 1)", "check f (1 = 1) ", "check f (1 = 1) :", "check f (1 = 1) : ", "check f (1 = 1) A", "check f (1 = 1) :A", "check f (1 = 1): A", "check f (1 = 1):A", "check f (1 = 1) :: A", "check f (1 = 1) ; A", "check f (1 = 1) : :A ", "check f : A", "check f  : A", "check (1 = 1) : A", "check : A", "check f 1 : A", "check f a : A", "check f (a + 1) : A", "check f (1=1) : A", "check f : (1 = 1) : A", "check f : (1 = 1) A", "check : f (1 = 1) A", ": check f (1 = 1) A",
		"check F (1 = 1) : A", "check _ (1 = 1) : A", "check 1 (1 = 1) : A", "checkf (1 = 1) : A", "Check f (1 = 1) : A", "CHECK f (1 = 1) : A", "checks f (1 = 1) : A", "check f (1 = 1) : A\x1f", "check f (1 = 1) : \x7f", "check f (1 = 1) : A\x80", "check f (1 = 1) : " + strings.Repeat("x", 61), "check f int 0 5 A",
		"must", "must ", "must f", "must f (1 = 1)", "must f (1 = 1) :", "must f (1 = 1) : ", "must f (1 = 1) A", "must f (1 = 1) :A", "must f (1 = 1): A", "must f 1 : A", "must f (1 + 1) : A", "Must f (1 = 1) : A", "MUST f (1 = 1) : A", "must F (1 = 1) : A", "musts f (1 = 1) : A", "must f (1 = 1) : " + strings.Repeat("x", 61), "must check f (1 = 1) : A", "check must f (1 = 1) : A",
		"compute", "compute ", "compute e", "compute e ", "compute 1", "compute e (1 = 1)", "compute e known(a)", "compute e 01", "compute e -0", "compute e +1", "compute e (1 + 1", "compute e 1 ", "compute e 1 : A", "compute e : 1", "compute E 1", "compute 1 1", "compute aaaaaaaaaaaaaaaaaaaaa 1", "computee 1", "Compute e 1", "compute e 1 1", "compute e foo(a)", "compute e\t1", "compute e 1000001",
		":", ": A", "1", "a", "(1 = 1)", "known(a)", "int", "#", "# ask", "\r", "\x00", "\xff", "é", "name", "ask a int 0 5 A?\x00",
	}
	return append(out, blanks()...)
}

// blanks: such Items with a blank too many or too few, at each place where one may be that changes what is read.
func blanks() []string {
	var out []string
	for _, words := range [][]string{
		{"ask", "a", "int", "0", "5", "A?"}, {"ask", "a", "code", "1", "5", "A?"}, {"ask", "a", "set", "1", "5", "A?"}, {"ask", "a", "text", "0", "5", "A?"},
		{"if", "(1", "=", "1)"}, {"check", "f", "(1", "=", "1)", ":", "A?"}, {"must", "f", "(1", "=", "1)", ":", "A?"}, {"compute", "e", "(1", "+", "1)"}, {"else"}, {"end"},
	} {
		line := strings.Join(words, " ")
		out = append(out, " "+line, line+" ", "\t"+line, line+"\t")
		for at := 1; at < len(words); at++ {
			ahead, behind := strings.Join(words[:at], " "), strings.Join(words[at:], " ")
			out = append(out, ahead+behind, ahead+"  "+behind, ahead+"\t"+behind, ahead+"   "+behind)
		}
	}
	return out
}

func TestPromise10ReadNoLines(t *testing.T) {
	for _, line := range noLines() {
		if _, ok := strictItem(line); ok {
			t.Errorf("%q is such an Item", line)
		}
		checkNoForm(t, line+"\n", 0, impl.ErrSyntax)
		checkNoForm(t, "ask z int 0 5 Z?\n"+line+"\n", 1, impl.ErrSyntax)
		checkNoForm(t, line+"\nask z int 0 5 Z?\n", 0, impl.ErrSyntax)
		checkNoForm(t, "ask z int 0 5 Z?\nif known(z)\n"+line+"\nend\n", 2, impl.ErrSyntax)
		checkNoForm(t, deskText+line+"\n", 11, impl.ErrSyntax)
		checkNoForm(t, line+"\n"+deskText, 0, impl.ErrSyntax)
		// The first of two is told, be they the same line or not.
		checkNoForm(t, "end\n"+line+"\nfoo\n", 1, impl.ErrSyntax)
		checkNoForm(t, "end\nfoo\n"+line+"\n", 1, impl.ErrSyntax)
	}
}

func TestPromise10ReadLineEnds(t *testing.T) {
	for at := range len(deskText) {
		if at > 0 && deskText[at-1] != '\n' {
			checkNoForm(t, deskText[:at], int64(strings.Count(deskText[:at], "\n")), impl.ErrSyntax)
		}
	}
	for _, line := range []string{"ask a int 0 5 A?", "else", "end", "if (1 = 1)", "foo", " ", "\r"} {
		checkNoForm(t, line, 0, impl.ErrSyntax)
		checkNoForm(t, "end\n"+line, 1, impl.ErrSyntax)
		checkNoForm(t, "ask a int 0 5 A?\nask b int 0 5 A?\n"+line, 2, impl.ErrSyntax)
		checkNoForm(t, deskText+line, 11, impl.ErrSyntax)
		// What lacks is the last line feed: it is told, also where a line ahead is none.
		checkNoForm(t, "foo\nend\n"+line, 2, impl.ErrSyntax)
	}
	lines := strings.SplitAfter(deskText, "\n")[:11]
	for at := range 12 {
		text := strings.Join(lines[:at], "") + "\n" + strings.Join(lines[at:], "")
		checkNoForm(t, text, int64(at), impl.ErrSyntax)
	}
	checkNoForm(t, "\n", 0, impl.ErrSyntax)
	checkNoForm(t, "\n\n\n", 0, impl.ErrSyntax)
	checkNoForm(t, strings.ReplaceAll(deskText, "\n", "\r\n"), 0, impl.ErrSyntax)
	checkNoForm(t, strings.ReplaceAll(deskText, "\n", "\r"), 0, impl.ErrSyntax)
}

func TestPromise10ReadColons(t *testing.T) {
	for _, text := range []string{":", ": A", ": : A", "A : B", "A:B", ":A", "A:", "A :", ":  :", "(1 = 1) : A", "::"} {
		for _, word := range []string{"check", "must"} {
			want := check("f", always(), text)
			want.Hard = word == "must"
			checkFormRead(t, word+" f (1 = 1) : "+text+"\n", []impl.Item{want})
		}
		checkFormRead(t, "ask a int 0 5 "+text+"\n", []impl.Item{ask("a", impl.TyInt, 0, 5, text)})
	}
}

// notForms: lines that are such Items, of which the form is not right.
var notForms = []string{
	"else\n", "end\n", "if (1 = 1)\n", "if (1 = 1)\nelse\n", "if (1 = 1)\nelse\nelse\nend\n", "if (1 = 1)\nend\nend\n", "if known(a)\nend\n", "ask a int 0 5 A?\nif (a = 1)\n",
	"ask a int 0 5 A?\nask a int 0 5 A?\n", "ask a int 0 5 A?\ncompute a 1\n", "check a (1 = 1) : A\nmust a (1 = 1) : A\n", "compute a a\n", "compute a b\ncompute b 1\n", "check a known(a) : A\n", "check a (1 = 1) : A\nif known(a)\nend\n",
	"ask a text 0 5 A?\ncompute b a\n", "ask a set 1 5 A?\ncompute b (a + 1)\n", "ask a int 0 5 A?\nif has(a,1)\nend\n", "ask a code 1 5 A?\ncheck b has(a,1) : B\n", "ask a text 0 5 A?\nif has(a,1)\nend\n", "compute a 1\nif has(a,1)\nend\n",
	strings.Repeat("if (1 = 1)\n", 7) + strings.Repeat("end\n", 7), strings.Repeat("end\n", 2000), strings.Repeat("end\n", 401),
}

func TestPromise10ReadNotRight(t *testing.T) {
	for _, text := range notForms {
		checkNoForm(t, text, 0, impl.ErrForm)
		lines := int64(strings.Count(text, "\n"))
		if len(text) < 7000 {
			// What stands behind is no such Item: that is told, and where it is.
			checkNoForm(t, text+"foo\n", lines, impl.ErrSyntax)
			checkNoForm(t, text+"\n", lines, impl.ErrSyntax)
			checkNoForm(t, text+"end", lines, impl.ErrSyntax)
			checkNoForm(t, text+"ask z int 0 5 Z?\nask z int 5 0 Z?\nfoo\n", lines+1, impl.ErrSyntax)
		}
	}
	for _, l := range wrongForms() {
		if slices.ContainsFunc(l, func(f impl.Item) bool { return !itemMade(f) }) || len(l) == 0 || len(linesOf(l)) > impl.MaxBytes {
			continue
		}
		checkNoForm(t, linesOf(l), 0, impl.ErrForm)
	}
}

func TestPromise10ReadMany(t *testing.T) {
	for count := range 60 {
		l := manyItems(count)
		text := linesOf(l)
		if count <= mostItems {
			checkFormRead(t, text, l)
		} else {
			checkNoForm(t, text, 0, impl.ErrForm)
		}
		checkNoForm(t, text+"foo\n", int64(count), impl.ErrSyntax)
		checkNoForm(t, text+"\n", int64(count), impl.ErrSyntax)
	}
	block := strings.Repeat("if (1 = 1)\nend\n", 12)
	same(t, "12 blocks", impl.FormRead(block).Code, int64(impl.OK))
	checkNoForm(t, block+"if (1 = 1)\nend\n", 0, impl.ErrForm)
}

func TestPromise10ReadLong(t *testing.T) {
	for _, one := range []string{"end\n", "foo\n", "\n", " ", "a", "(", "ask ", "if (", "if !", "check f (", ":", "\x00", "\xff", "é", deskText} {
		text := strings.Repeat(one, 2*impl.MaxBytes)
		same(t, "8000 bytes", checkFormStrictly(t, text[:impl.MaxBytes]) != impl.ErrSize, true)
		checkNoForm(t, text[:impl.MaxBytes+1], 0, impl.ErrSize)
		checkNoForm(t, text[:2*impl.MaxBytes], 0, impl.ErrSize)
	}
	for _, size := range []int{100, 1000, 7000} {
		for _, line := range []string{"if " + strings.Repeat("!", size) + "known(a)", "compute e " + strings.Repeat("1", size), "ask " + strings.Repeat("a", size) + " int 0 5 A?", "ask a int 0 " + strings.Repeat("5", size) + " A?", "ask a int 0 5 " + strings.Repeat("A", size), "if " + strings.Repeat("(", size)} {
			checkNoForm(t, line+"\n", 0, impl.ErrSyntax)
			checkNoForm(t, fmt.Sprintf("end\n%s\n", line), 1, impl.ErrSyntax)
		}
	}
}

func TestPromise10ReadNames(t *testing.T) {
	for _, name := range names {
		checkFormRead(t, "ask "+name+" int 0 5 A?\ncompute q ("+name+" + 1)\n", []impl.Item{ask(name, impl.TyInt, 0, 5, "A?"), compute("q", two(impl.ExPlus, field(name), num(1)))})
		checkFormRead(t, "compute "+name+" 1\n", []impl.Item{compute(name, num(1))})
		checkFormRead(t, "must "+name+" (1 = 1) : A\n", []impl.Item{must(name, always(), "A")})
	}
	for _, word := range []string{"ask", "if", "else", "end", "check", "must", "compute", "int", "code", "set", "text"} {
		checkFormRead(t, "ask "+word+" int 0 5 "+word+"\nif ("+word+" = 1)\nend\n", []impl.Item{ask(word, impl.TyInt, 0, 5, word), when(two(impl.ExSame, field(word), num(1))), end()})
		checkFormRead(t, "check "+word+" (1 = 1) : "+word+"\n", []impl.Item{check(word, always(), word)})
	}
	for _, name := range notNames {
		checkNoForm(t, "compute "+name+" 1\n", 0, impl.ErrSyntax)
		checkNoForm(t, "check "+name+" (1 = 1) : A\n", 0, impl.ErrSyntax)
		checkNoForm(t, "ask "+name+" int 0 5 A?\n", 0, impl.ErrSyntax)
	}
}
