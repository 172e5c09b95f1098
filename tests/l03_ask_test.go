package tests

import (
	"fmt"
	"math"
	"slices"
	"strings"
	"testing"

	"loop.example/g00561/impl"
)

func TestPromise6Same(t *testing.T) {
	all := allWritten()
	for i, a := range all {
		for j, b := range all {
			// A right Value has just one text, and no two have the same.
			same(t, fmt.Sprintf("%d %s and %d %s", i, a.text, j, b.text), impl.ValueSame(a.value, b.value), a.text == b.text)
		}
	}
	same(t, "no code and none", impl.ValueSame(choices(), impl.Value{Kind: impl.VaSet, Codes: []int64{}}), true)
	same(t, "none and no code", impl.ValueSame(impl.Value{Codes: []int64{}}, nothing()), true)
	same(t, "lists of their own", impl.ValueSame(choices(1, 2), choices(1, 2)), true)
	same(t, "texts of their own", impl.ValueSame(words(strings.Repeat("a", 3)), words("aa"+"a")), true)
}

func TestPromise6SameSets(t *testing.T) {
	full := allCodes()
	for at := range full {
		less := slices.Delete(allCodes(), at, at+1)
		same(t, fmt.Sprintf("all and without %d", at+1), impl.ValueSame(choices(full...), choices(less...)), false)
		same(t, fmt.Sprintf("without %d and all", at+1), impl.ValueSame(choices(less...), choices(full...)), false)
		same(t, fmt.Sprintf("up to %d and all", at), impl.ValueSame(choices(full[:at]...), choices(full...)), false)
		for other := range full {
			alike := at == other
			same(t, fmt.Sprintf("%d and %d", at+1, other+1), impl.ValueSame(choices(full[at]), choices(full[other])), alike)
			same(t, fmt.Sprintf("without %d, without %d", at+1, other+1), impl.ValueSame(choices(less...), choices(slices.Delete(allCodes(), other, other+1)...)), alike)
		}
	}
}

func TestPromise6SameWrong(t *testing.T) {
	for _, v := range wrongValues() {
		same(t, shown(v)+" and itself", impl.ValueSame(v, v), false)
		for _, w := range []impl.Value{nothing(), integer(0), choice(1), choices(), choices(1, 3), words(""), dont()} {
			same(t, shown(v)+" first", impl.ValueSame(v, w), false)
			same(t, shown(v)+" second", impl.ValueSame(w, v), false)
		}
	}
}

func TestPromise6AnsweredKnown(t *testing.T) {
	for _, w := range allWritten() {
		known := !slices.Contains([]string{"", "DK", "RF"}, w.text)
		same(t, "Answered "+w.text, impl.Answered(w.value), w.text != "")
		same(t, "Known "+w.text, impl.Known(w.value), known)
	}
	for _, v := range wrongValues() {
		same(t, "Answered "+shown(v), impl.Answered(v), false)
		same(t, "Known "+shown(v), impl.Known(v), false)
	}
}

func TestPromise6HasCode(t *testing.T) {
	sets := [][]int64{nil, {}, {1}, {20}, {2}, {1, 3}, {1, 20}, {5, 6, 7}, allCodes()}
	for _, set := range sets {
		for code := int64(-2); code <= 23; code++ {
			same(t, fmt.Sprintf("%d in %v", code, set), impl.HasCode(choices(set...), code), slices.Contains(set, code))
		}
		for _, code := range []int64{math.MaxInt64, math.MinInt64, 1<<32 + 1, 257} {
			same(t, fmt.Sprintf("%d in %v", code, set), impl.HasCode(choices(set...), code), false)
		}
	}
}

func TestPromise6HasCodeNone(t *testing.T) {
	for _, w := range allWritten() {
		if w.value.Kind == impl.VaSet {
			continue
		}
		for code := int64(-1); code <= 21; code++ {
			same(t, fmt.Sprintf("%d in %s", code, w.text), impl.HasCode(w.value, code), false)
		}
	}
	for _, v := range wrongValues() {
		for _, code := range append([]int64{-1, 0, 1, 2, 3, 20, 21, v.N, math.MaxInt64, math.MinInt64}, v.Codes...) {
			same(t, fmt.Sprintf("%d in %s", code, shown(v)), impl.HasCode(v, code), false)
		}
	}
}

// askAll calls all that takes a Value.
func askAll(v impl.Value) {
	impl.ValueRight(v)
	impl.ValueSame(v, v)
	impl.ValueSame(choices(1), v)
	impl.ValueText(v)
	impl.Answered(v)
	impl.Known(v)
	impl.HasCode(v, 1)
}

func TestValuesAreNotChanged(t *testing.T) {
	all := wrongValues()
	for _, w := range allWritten() {
		all = append(all, w.value)
	}
	for _, v := range all {
		// What stands in the list's memory behind its end is not the program's either.
		roomy := append(slices.Clone(v.Codes), 7, 7, 7)
		v.Codes = roomy[:len(v.Codes)]
		before := slices.Clone(roomy)
		kind, n, text := v.Kind, v.N, strings.Clone(v.Text)
		askAll(v)
		same(t, shown(v)+" keeps its codes", slices.Equal(roomy, before), true)
		sameValue(t, "what was handed in", v, impl.Value{Kind: kind, N: n, Codes: before[:len(v.Codes)], Text: text})
	}
}

func TestValuesAreNewMemory(t *testing.T) {
	const text = "{1,3,5}"
	first, second := impl.ValueRead(text), impl.ValueRead(text)
	first.Value.Codes[0] = 9
	sameValue(t, "the other answer", second.Value, choices(1, 3, 5))
	checkRead(t, text, choices(1, 3, 5))

	for _, chars := range []string{"some words", `"`, `a""b`, strings.Repeat("x", 40)} {
		v := words(strings.Clone(chars))
		made := impl.ValueText(v)
		same(t, "ValueText", overlaps(made, v.Text), false)
		same(t, "ValueRead", overlaps(impl.ValueRead(made).Value.Text, made), false)
	}
}
