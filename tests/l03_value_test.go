package tests

import (
	"fmt"
	"math"
	"slices"
	"strings"
	"testing"

	"loop.example/g00561/impl"
)

const mostInt = 1000000000

var noKinds = []int64{-1, -2, -mostInt, 7, 8, 9, 100, 256, 1 << 32, 1<<32 + 1, math.MinInt64, math.MinInt64 + 1, math.MaxInt64, math.MaxInt64 - 1}

func nothing() impl.Value {
	return impl.Value{}
}

func integer(n int64) impl.Value {
	return impl.Value{Kind: impl.VaInt, N: n}
}

func choice(code int64) impl.Value {
	return impl.Value{Kind: impl.VaCode, N: code}
}

func choices(codes ...int64) impl.Value {
	return impl.Value{Kind: impl.VaSet, Codes: codes}
}

func words(text string) impl.Value {
	return impl.Value{Kind: impl.VaText, Text: text}
}

func dont() impl.Value {
	return impl.Value{Kind: impl.VaDont}
}

func refuse() impl.Value {
	return impl.Value{Kind: impl.VaRefuse}
}

func allCodes() []int64 {
	var out []int64
	for code := int64(1); code <= 20; code++ {
		out = append(out, code)
	}
	return out
}

// plainBytes are the 95 bytes that may stand in a text.
func plainBytes() string {
	var out []byte
	for b := byte(32); b <= 126; b++ {
		out = append(out, b)
	}
	return string(out)
}

// written is a right Value and its text.
type written struct {
	value impl.Value
	text  string
}

// allWritten has each Kind, with its edges.
func allWritten() []written {
	plain := plainBytes()
	return []written{
		{nothing(), ""},
		{dont(), "DK"},
		{refuse(), "RF"},
		{integer(0), "0"},
		{integer(1), "1"},
		{integer(-1), "-1"},
		{integer(9), "9"},
		{integer(10), "10"},
		{integer(-10), "-10"},
		{integer(20), "20"},
		{integer(-5), "-5"},
		{integer(123456789), "123456789"},
		{integer(mostInt - 1), "999999999"},
		{integer(1 - mostInt), "-999999999"},
		{integer(mostInt), "1000000000"},
		{integer(-mostInt), "-1000000000"},
		{choice(1), "#1"},
		{choice(9), "#9"},
		{choice(10), "#10"},
		{choice(20), "#20"},
		{choices(), "{}"},
		{choices([]int64{}...), "{}"},
		{choices(1), "{1}"},
		{choices(20), "{20}"},
		{choices(1, 3), "{1,3}"},
		{choices(9, 10), "{9,10}"},
		{choices(1, 2, 20), "{1,2,20}"},
		{choices(allCodes()...), "{1,2,3,4,5,6,7,8,9,10,11,12,13,14,15,16,17,18,19,20}"},
		{words(""), `""`},
		{words("a"), `"a"`},
		{words(" "), `" "`},
		{words("~"), `"~"`},
		{words("Who, {me}? #1"), `"Who, {me}? #1"`},
		{words("DK"), `"DK"`},
		{words("5"), `"5"`},
		{words(`\`), `"\"`},
		{words(`"`), `""""`},
		{words(`""`), `""""""`},
		{words(`"a`), `"""a"`},
		{words(`a"`), `"a"""`},
		{words(`a"b`), `"a""b"`},
		{words(`a""b`), `"a""""b"`},
		{words(`"a"b"`), `"""a""b"""`},
		{words(strings.Repeat("x", 40)), `"` + strings.Repeat("x", 40) + `"`},
		{words(strings.Repeat(`"`, 40)), strings.Repeat(`"`, 82)},
		{words(plain[40:80]), `"` + plain[40:80] + `"`},
		{words(plain[55:]), `"` + plain[55:] + `"`},
	}
}

// wrongValues: of each Kind some that are not right, and some of Kinds that are none.
func wrongValues() []impl.Value {
	out := []impl.Value{
		integer(mostInt + 1), integer(-mostInt - 1), integer(math.MaxInt64), integer(math.MinInt64), integer(1 << 32),
		choice(0), choice(21), choice(-1), choice(22), choice(mostInt), choice(math.MaxInt64), choice(math.MinInt64), choice(1<<32 + 1),
		choices(0), choices(21), choices(-1), choices(0, 1), choices(19, 20, 21), choices(2, 1), choices(1, 3, 2), choices(1, 1), choices(20, 20), choices(1, 2, 2),
		choices(math.MinInt64), choices(math.MaxInt64), choices(1, math.MaxInt64, 2), choices(1, math.MaxInt64, math.MinInt64), choices(append(allCodes(), 20)...), choices(append(allCodes(), 21)...),
		choices(make([]int64, 500)...), choices(append(allCodes(), allCodes()...)...),
		words(strings.Repeat("x", 41)), words(strings.Repeat(`"`, 41)), words(tooLong()), words("a\nb"), words("\x1f"), words("\x7f"), words("\x80"), words("\xff"), words("\x00"), words("ä"), words("ab\x1f"), words("\x7fab"),
	}
	for _, kind := range noKinds {
		out = append(out, impl.Value{Kind: kind}, impl.Value{Kind: kind, N: 1}, impl.Value{Kind: kind, Codes: []int64{1}}, impl.Value{Kind: kind, Text: "a"})
	}
	return append(out, withNeedless()...)
}

// needless is one that is right by itself, and what is not named for its Kind.
type needless struct {
	value             impl.Value
	num, codes, chars bool
}

// withNeedless: right ones of each Kind, in which one field is set that is not named for it.
func withNeedless() []impl.Value {
	var out []impl.Value
	for _, v := range []needless{
		{nothing(), true, true, true}, {dont(), true, true, true}, {refuse(), true, true, true},
		{integer(0), false, true, true}, {integer(3), false, true, true}, {choice(3), false, true, true},
		{choices(), true, false, true}, {choices(1, 3), true, false, true},
		{words(""), true, true, false}, {words("ab"), true, true, false},
	} {
		for _, n := range []int64{1, -1, 20, mostInt, math.MaxInt64, math.MinInt64} {
			if w := v.value; v.num {
				w.N = n
				out = append(out, w)
			}
		}
		for _, codes := range [][]int64{{0}, {1}, {1, 3}, {-1}, make([]int64, 20), make([]int64, 21)} {
			if w := v.value; v.codes {
				w.Codes = codes
				out = append(out, w)
			}
		}
		for _, text := range []string{"a", " ", "\x00", "0", strings.Repeat("x", 41)} {
			if w := v.value; v.chars {
				w.Text = text
				out = append(out, w)
			}
		}
	}
	return out
}

// sameValue has an empty list and none be the same.
func sameValue(t *testing.T, what string, got, want impl.Value) {
	t.Helper()
	alike := got.Kind == want.Kind && got.N == want.N && slices.Equal(got.Codes, want.Codes) && got.Text == want.Text
	if !alike {
		t.Errorf("%s: got %s, want %s", what, shown(got), shown(want))
	}
}

func TestValueConstants(t *testing.T) {
	for i, kind := range []int64{impl.VaNone, impl.VaInt, impl.VaCode, impl.VaSet, impl.VaText, impl.VaDont, impl.VaRefuse} {
		same(t, "a Kind", kind, int64(i))
	}
}

func TestPromise6Right(t *testing.T) {
	for _, w := range allWritten() {
		same(t, shown(w.value), impl.ValueRight(w.value), true)
	}
	for _, v := range wrongValues() {
		same(t, shown(v), impl.ValueRight(v), false)
	}
}

func TestPromise6RightKinds(t *testing.T) {
	for kind := int64(-300); kind <= 300; kind++ {
		right := kind >= 0 && kind <= 6 && kind != impl.VaCode
		same(t, fmt.Sprintf("Kind %d alone", kind), impl.ValueRight(impl.Value{Kind: kind}), right)
	}
	empty := impl.Value{Codes: []int64{}}
	for _, kind := range []int64{impl.VaNone, impl.VaInt, impl.VaSet, impl.VaText, impl.VaDont, impl.VaRefuse} {
		empty.Kind = kind
		same(t, fmt.Sprintf("Kind %d, an empty list of codes", kind), impl.ValueRight(empty), true)
	}
}

func TestPromise6RightCodes(t *testing.T) {
	for code := int64(-300); code <= 300; code++ {
		right := code >= 1 && code <= 20
		same(t, fmt.Sprintf("code %d", code), impl.ValueRight(choice(code)), right)
		same(t, fmt.Sprintf("a set of %d", code), impl.ValueRight(choices(code)), right)
	}
	for a := int64(-1); a <= 22; a++ {
		for b := int64(-1); b <= 22; b++ {
			right := a >= 1 && a < b && b <= 20
			same(t, fmt.Sprintf("a set of %d and %d", a, b), impl.ValueRight(choices(a, b)), right)
		}
	}
	for at := range 20 {
		codes := allCodes()
		same(t, fmt.Sprintf("without the code at %d", at), impl.ValueRight(choices(slices.Delete(allCodes(), at, at+1)...)), true)
		for _, other := range []int64{0, 21, math.MaxInt64, math.MinInt64} {
			codes[at] = other
			same(t, fmt.Sprintf("%d at %d", other, at), impl.ValueRight(choices(codes...)), false)
		}
		if at > 0 {
			codes[at] = codes[at-1]
			same(t, fmt.Sprintf("twice at %d", at), impl.ValueRight(choices(codes...)), false)
		}
	}
}

func TestPromise6RightBytes(t *testing.T) {
	for b := range 256 {
		right := b >= 32 && b <= 126
		one := string([]byte{byte(b)})
		for _, ahead := range []int{0, 1, 20, 39} {
			for _, behind := range []int{0, 1, 39 - ahead} {
				if ahead+1+behind > 40 {
					continue
				}
				text := strings.Repeat("a", ahead) + one + strings.Repeat("b", behind)
				same(t, fmt.Sprintf("%q", text), impl.ValueRight(words(text)), right)
			}
		}
	}
	for size := range 100 {
		same(t, fmt.Sprintf("%d bytes", size), impl.ValueRight(words(strings.Repeat("x", size))), size <= 40)
	}
}
