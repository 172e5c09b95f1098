package tests

import (
	"fmt"
	"math/rand"
	"slices"
	"strings"
	"testing"

	"loop.example/g00561/impl"
)

func checkExprRead(t *testing.T, text string, want []impl.Part) {
	t.Helper()
	got := impl.ExprRead(text)
	same(t, fmt.Sprintf("the code of %.80q", text), got.Code, int64(impl.OK))
	same(t, fmt.Sprintf("%.80q is read as %v", text, got.Expr), slices.Equal(got.Expr, want), true)
}

func checkExprNotRead(t *testing.T, text string, code int64) {
	t.Helper()
	got := impl.ExprRead(text)
	same(t, fmt.Sprintf("the code of %.80q", text), got.Code, code)
	same(t, fmt.Sprintf("the Parts of %.80q", text), len(got.Expr), 0)
}

func TestPromise7Text(t *testing.T) {
	for _, n := range rightNodes() {
		same(t, shown(n.parts()), impl.ExprText(n.parts()), n.text())
	}
	for _, x := range wrongLists() {
		same(t, shown(x), impl.ExprText(x), "")
	}
}

func TestPromise7TextByHand(t *testing.T) {
	for text, n := range map[string]node{
		"-5":                         num(-5),
		"age":                        field("age"),
		"(a + 1)":                    two(impl.ExPlus, field("a"), num(1)),
		"(1 - a)":                    two(impl.ExMinus, num(1), field("a")),
		"(a - -1)":                   two(impl.ExMinus, field("a"), num(-1)),
		"(2 * 3)":                    two(impl.ExTimes, num(2), num(3)),
		"(a = b)":                    two(impl.ExSame, field("a"), field("b")),
		"((age + 1) < 5)":            two(impl.ExBelow, two(impl.ExPlus, field("age"), num(1)), num(5)),
		"(0 <= (a * b))":             two(impl.ExAtMost, num(0), two(impl.ExTimes, field("a"), field("b"))),
		"(known(a) & has(b,20))":     two(impl.ExAnd, known("a"), has("b", 20)),
		"(!known(a) | !(1 = has))":   two(impl.ExOr, not(known("a")), not(two(impl.ExSame, num(1), field("has")))),
		"!!(known < 3)":              not(not(two(impl.ExBelow, field("known"), num(3)))),
		"!has(has,1)":                not(has("has", 1)),
		"(known(known) & (has = 0))": two(impl.ExAnd, known("known"), two(impl.ExSame, field("has"), num(0))),
	} {
		same(t, text, impl.ExprText(n.parts()), text)
		checkExprRead(t, text, n.parts())
	}
}

func TestPromise7Read(t *testing.T) {
	for _, n := range rightNodes() {
		checkExprRead(t, n.text(), n.parts())
	}
	// The texts of what is right but for a limit, or for what stands where.
	for _, n := range wrongNodes() {
		checkExprNotRead(t, n.text(), impl.ErrSyntax)
	}
}

func TestPromise7Back(t *testing.T) {
	for _, n := range randomRight(70, 20000) {
		text := impl.ExprText(n.parts())
		same(t, "the text", text, n.text())
		checkExprRead(t, text, n.parts())
	}
}

func TestPromise7ReadWrong(t *testing.T) {
	for _, text := range []string{
		"", " ", "(", ")", "()", "( )", "(())", "!", "!!", "!(", "!()", ",", "-", "+", "*", "=", "<", "<=", "&", "|",
		"00", "01", "007", "-0", "-00", "-01", "+1", "+0", "--1", "-+1", "1-", "1.0", "1e3", "0x1", "1_0", "_1", "1a", "- 1", "-a", "+a",
		"1000001", "-1000001", "10000000", "4294967297", "9223372036854775807", "-9223372036854775808", "9223372036854775808", "18446744073709551617",
		"A", "aB", "_a", "9a", "a-b", "a.b", "a b", "a b c", "a,b", "a!", "a(", "a)", "a()", "a(b)", "a(b,1)", "(a", "(a)", "((a))", "(1)", "a1(2)",
		"1 + 1", "(1 + 1", "1 + 1)", "(1 + )", "( + 1)", "(1 + 1))", "((1 + 1)", "((1 + 1))", "(1 + 1)(1 + 1)", "(1 + 1) ", " (1 + 1)", "(1 + 1) + 1", "(1 + 1 + 1)", "(1 + 1 1)", "(1 1)", "(1 + 1 +)", "(1 + 1 + )", "(+ 1 1)", "(1 1 +)",
		"(1+1)", "(1 +1)", "(1+ 1)", "(1  + 1)", "(1 +  1)", "( 1 + 1)", "(1 + 1 )", "(1\t+ 1)", "(1 +\n1)", "(1,+,1)", "(1 + 1,)", "(1!+ 1)", "(1 +!1)", "(1(+ 1)", "(1 +(1)", "(1)+ 1)", "(1 +)1)", "[1 + 1]", "{1 + 1}",
		"(1 == 1)", "(1 > 1)", "(1 >= 1)", "(1 => 1)", "(1 =< 1)", "(1 < = 1)", "(1 <> 1)", "(1 != 1)", "(1 / 1)", "(1 ++ 1)", "(1 +- 1)", "(1 ! 1)", "(1 a 1)", "(1 1 1)", "(1 ( 1)", "(1 , 1)", "(1 ≤ 1)", "(known(a) && known(b))", "(known(a) || known(b))", "(known(a) and known(b))", "(known(a) ! known(b))",
		"!1", "!a", "!-1", "!(1 + 1)", "! known(a)", "known(a)!", "!!a", "(!1 + 1)", "(!a < 1)", "(!known(a))", "!(known(a))", "not known(a)",
		"has(a,0)", "has(a,21)", "has(a,01)", "has(a,-1)", "has(a,+1)", "has(a,)", "has(a,a)", "has(a,1,2)", "has(a)", "has(,1)", "has(1)", "has(1,a)", "has(1,1)", "has()", "has(", "has)", "has(a", "has(a,", "has(a,1", "has(a,1))", "has((a,1)", "has(a 1)", "has(a, 1)", "has(a ,1)", "has( a,1)", "has(a,1 )", "has (a,1)", "has(a;1)", "has(A,1)", "has(_,1)", "has(a,1)a", "has(a,1)(", "has((a),1)", "has(a,(1))", "has!a,1)", "has(a,18446744073709551617)", "has(a,4294967297)", "hasa,1", "has a,1", "HAS(a,1)", "has(a,1!", "has(a!1)", "has(a)1)", "has(a(1)", "has(a,1(", "has(a,1,", "has(a,1 ",
		"known()", "known(1)", "known(-1)", "known(", "known)", "known(a", "known(a))", "known((a)", "known((a))", "known(a,1)", "known(a,)", "known( a)", "known(a )", "known (a)", "known(A)", "known(a)a", "known(!a)", "known(known(a))", "known!a)", "known(a!", "known(a(", "known(a,", "known(a ", "knowns(a)", "KNOWN(a)", "Known(a)",
		"(known(a) + 1)", "(1 + known(a))", "(known(a) - 1)", "(has(a,1) * 1)", "(1 = known(a))", "(known(a) < 1)", "(1 <= has(a,1))", "(1 & known(a))", "(known(a) & 1)", "(a | known(a))", "(known(a) | (1 + 1))", "((1 < 2) < 3)", "(1 < (2 < 3))", "((1 = 1) = (1 = 1))",
		"\x00", "\n", "1\n", "1\x00", "\xff", "a\xff", "\xe2\x82", "ä", "é", "aé", "１", "ａ", "\u00a0", "1\u00a0", "(1\u00a0+ 1)", "\ufffd", "a\ufffd", "(1 + 1）", "（1 + 1)", "has(ä,1)", "known(\xff)", "known(\xf0\x9f)", "!\xc3known(a)", "(1 \xff+ 1)", "(1 + 1)\xff", "\xff(1 + 1)", "\xed\xa0\x80",
	} {
		checkExprNotRead(t, text, impl.ErrSyntax)
	}
}

func TestPromise7ReadNames(t *testing.T) {
	for _, name := range names {
		checkExprRead(t, name, field(name).parts())
		checkExprRead(t, "("+name+" * "+name+")", two(impl.ExTimes, field(name), field(name)).parts())
		checkExprRead(t, "known("+name+")", known(name).parts())
		checkExprRead(t, "has("+name+",20)", has(name, 20).parts())
	}
	for _, name := range notNames {
		if name != "1" {
			checkExprNotRead(t, name, impl.ErrSyntax)
			checkExprNotRead(t, "("+name+" + 1)", impl.ErrSyntax)
		}
		checkExprNotRead(t, "known("+name+")", impl.ErrSyntax)
		checkExprNotRead(t, "has("+name+",1)", impl.ErrSyntax)
	}
}

func TestPromise7ReadLong(t *testing.T) {
	for _, one := range []string{"1", "0", "-", "(", ")", "!", "a", " ", ",", "+", "(1 + ", "has(", "known(", "\x00", "\xff", "é", "(!", "a("} {
		text := strings.Repeat(one, impl.MaxBytes)[:impl.MaxBytes]
		checkExprNotRead(t, text, impl.ErrSyntax)
		checkExprNotRead(t, text+one[:1], impl.ErrSize)
		checkExprNotRead(t, text+text, impl.ErrSize)
	}
	for _, size := range []int{8, 18, 19, 20, 21, 40, 300, impl.MaxBytes} {
		checkExprNotRead(t, strings.Repeat("1", size), impl.ErrSyntax)
		checkExprNotRead(t, "-"+strings.Repeat("1", size-1), impl.ErrSyntax)
		checkExprNotRead(t, strings.Repeat("0", size-1)+"1", impl.ErrSyntax)
	}
	for _, parts := range []int{21, 200, 400, 401, 2000} {
		checkExprNotRead(t, strings.Repeat("!", parts-1)+"a", impl.ErrSyntax)
		checkExprNotRead(t, strings.Repeat("(", parts/2)+"1"+strings.Repeat(")", parts/2), impl.ErrSyntax)
	}
	checkExprNotRead(t, strings.Repeat(" ", impl.MaxBytes)+"1", impl.ErrSize)
	checkExprNotRead(t, "1"+strings.Repeat(" ", impl.MaxBytes), impl.ErrSize)
}

// TestPromise7ReadTurned changes right texts a little, and reads them strictly by the document beside the program.
func TestPromise7ReadTurned(t *testing.T) {
	bytes := []string{"(", ")", "!", ",", " ", "+", "-", "<", "=", "&", "0", "1", "2", "a", "_", "A", "\x00", "\xff", "é"}
	read := 0
	for _, n := range slices.Concat(eachOp(), atLimits()[:10], randomRight(71, 120)) {
		text := n.text()
		for at := range len(text) + 1 {
			var turned []string
			for _, b := range bytes {
				turned = append(turned, text[:at]+b+text[at:])
				if at < len(text) {
					turned = append(turned, text[:at]+b+text[at+1:])
				}
			}
			if at < len(text) {
				turned = append(turned, text[:at]+text[at+1:], text[:at], text[at:], text[:at+1]+text[at:])
			}
			for _, other := range turned {
				read += checkStrictly(t, other)
			}
		}
	}
	same(t, "many are read", read > 1000, true)
}

func TestPromise7ReadPieces(t *testing.T) {
	r := rand.New(rand.NewSource(72))
	pieces := []string{"(", "(", ")", ")", "!", " ", " + ", " < ", " = ", " & ", " | ", "1", "-20", "a", "b2", "has(a,3)", "known(c)", "has", "known", ",", "(a = 1)", "(a - b)"}
	read := 0
	for range 200000 {
		text := ""
		for range 1 + r.Intn(7) {
			text += pieces[r.Intn(len(pieces))]
		}
		read += checkStrictly(t, text)
	}
	same(t, "many are read", read > 5000, true)
}
