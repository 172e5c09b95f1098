package tests

import (
	"fmt"
	"math"
	"slices"
	"strings"
	"testing"

	"loop.example/g00561/impl"
)

func TestPromise10FieldOf(t *testing.T) {
	for _, l := range append(rightForms(), randomForms(106, 300)...) {
		for i, f := range l {
			what := fmt.Sprintf("%s at %d", f.Name, i)
			if isField(f.Kind) {
				sameItem(t, what, impl.FieldOf(l, f.Name), f)
			} else {
				sameItem(t, what, impl.FieldOf(l, f.Name), impl.Item{})
			}
			if f.Name != "" {
				sameItem(t, what+", and more", impl.FieldOf(l, besideOf(f.Name)), impl.Item{})
				sameItem(t, what+", in capitals", impl.FieldOf(l, strings.ToUpper(f.Name)), impl.Item{})
			}
		}
		for _, name := range append(slices.Clone(notNames), "zzz", "f", "nam", "names", tooLong(), tooLong()[1:]) {
			sameItem(t, shown(name), impl.FieldOf(l, name), impl.Item{})
		}
	}
}

func TestPromise10FieldOfByHand(t *testing.T) {
	l := deskItems()
	for name, at := range map[string]int{"name": 0, "age": 1, "work": 3, "school": 6, "left": 7, "likes": 10} {
		sameItem(t, name, impl.FieldOf(l, name), l[at])
	}
	for _, name := range []string{"young", "sane", "", "if", "else", "end", "Age", "ag", "age ", "{age}"} {
		sameItem(t, name, impl.FieldOf(l, name), impl.Item{})
	}
}

func TestPromise10FieldsOf(t *testing.T) {
	for _, l := range append(rightForms(), randomForms(107, 300)...) {
		var want []string
		for _, f := range l {
			if isField(f.Kind) {
				want = append(want, f.Name)
			}
		}
		same(t, shown(l), strings.Join(impl.FieldsOf(l), " "), strings.Join(want, " "))
		same(t, "how many", len(impl.FieldsOf(l)), len(want))
		for _, name := range impl.FieldsOf(l) {
			same(t, "it is found by its name", impl.FieldOf(l, name).Name, name)
		}
	}
	same(t, "the desk's, in order", strings.Join(impl.FieldsOf(deskItems()), " "), "name age work school left likes")
}

func TestPromise10FieldsWrong(t *testing.T) {
	for _, l := range slices.Concat(wrongForms(), longForms()) {
		same(t, shown(l), len(impl.FieldsOf(l)), 0)
		for _, f := range l[:min(len(l), 30)] {
			sameItem(t, shown(l), impl.FieldOf(l, f.Name), impl.Item{})
		}
		for _, name := range []string{"", "age", "a", "zzz", tooLong()} {
			sameItem(t, name, impl.FieldOf(l, name), impl.Item{})
		}
	}
}

// fitting is the document's word on what fits an ItAsk that is so made.
func fitting(f impl.Item, v impl.Value) bool {
	if !impl.ValueRight(v) {
		return false
	}
	switch {
	case v.Kind == impl.VaDont, v.Kind == impl.VaRefuse:
		return true
	case v.Kind == impl.VaInt && f.Type == impl.TyInt:
		return f.Low <= v.N && v.N <= f.High
	case v.Kind == impl.VaCode && f.Type == impl.TyCode:
		return v.N <= f.High
	case v.Kind == impl.VaSet && f.Type == impl.TySet:
		return !slices.ContainsFunc(v.Codes, func(code int64) bool { return code > f.High })
	case v.Kind == impl.VaText && f.Type == impl.TyText:
		return len(v.Text) <= int(f.High)
	}
	return false
}

func checkFits(t *testing.T, f impl.Item, v impl.Value, want bool) {
	t.Helper()
	if impl.Fits(f, v) != want {
		t.Errorf("%s in %s: %v, want %v", shown(v), shown(f), !want, want)
	}
}

// allValues: right ones of each Kind, at and around all bounds there can be.
func allValues() []impl.Value {
	out := []impl.Value{nothing(), dont(), refuse(), choices(), choices(allCodes()...)}
	for _, n := range []int64{-mostInt, -mostNum - 1, -mostNum, -6, -5, -4, -1, 0, 1, 4, 5, 6, 9, 10, 20, 21, mostNum, mostNum + 1, mostInt} {
		out = append(out, integer(n))
	}
	for _, code := range allCodes() {
		out = append(out, choice(code), choices(code))
		if code > 1 {
			out = append(out, choices(1, code), choices(allCodes()[:code]...))
		}
	}
	for size := range 41 {
		out = append(out, words(strings.Repeat("5", size)))
	}
	return out
}

func allAsks() []impl.Item {
	out := []impl.Item{
		ask("a", impl.TyInt, -mostNum, mostNum, "?"), ask("a", impl.TyInt, -5, 5, "?"), ask("a", impl.TyInt, 0, 0, "?"), ask("a", impl.TyInt, 5, 5, "?"), ask("a", impl.TyInt, -1, 20, "?"), ask("a", impl.TyInt, mostNum, mostNum, "?"),
	}
	for high := int64(1); high <= 40; high++ {
		out = append(out, ask("a", impl.TyText, 0, high, "?"))
		if high <= 20 {
			out = append(out, ask("a", impl.TyCode, 1, high, "?"), ask("a", impl.TySet, 1, high, "?"))
		}
	}
	return out
}

func TestPromise10Fits(t *testing.T) {
	for _, f := range allAsks() {
		for _, v := range allValues() {
			checkFits(t, f, v, fitting(f, v))
		}
		checkFits(t, f, nothing(), false)
		checkFits(t, f, dont(), true)
		checkFits(t, f, refuse(), true)
		for _, v := range wrongValues() {
			checkFits(t, f, v, false)
		}
	}
}

func TestPromise10FitsByHand(t *testing.T) {
	desk := deskItems()
	age, work, name, likes := desk[1], desk[3], desk[0], desk[10]
	for _, c := range []struct {
		f    impl.Item
		v    impl.Value
		want bool
	}{
		{age, integer(0), true}, {age, integer(-1), false}, {age, integer(120), true}, {age, integer(121), false}, {age, choice(5), false}, {age, choices(5), false}, {age, choices(), false}, {age, words("5"), false},
		{work, choice(1), true}, {work, choice(3), true}, {work, choice(4), false}, {work, choice(0), false}, {work, integer(1), false}, {work, choices(1), false}, {work, choices(), false}, {work, words("#1"), false},
		{likes, choices(), true}, {likes, choices(1), true}, {likes, choices(1, 4), true}, {likes, choices(1, 2, 3, 4), true}, {likes, choices(5), false}, {likes, choices(1, 5), false}, {likes, choices(4, 20), false}, {likes, choice(1), false}, {likes, integer(1), false}, {likes, words("{1}"), false},
		{name, words(""), true}, {name, words("Ann"), true}, {name, words(strings.Repeat("n", 20)), true}, {name, words(strings.Repeat("n", 21)), false}, {name, integer(1), false}, {name, choice(1), false}, {name, choices(), false}, {name, words("\n"), false},
	} {
		checkFits(t, c.f, c.v, c.want)
	}
}

func TestPromise10FitsNoAsk(t *testing.T) {
	var wrong []impl.Item
	for _, f := range soMade() {
		if f.Kind != impl.ItAsk {
			wrong = append(wrong, f)
			f.Type, f.Low, f.High, f.Text = impl.TyInt, -5, 5, "?"
			wrong = append(wrong, f)
			continue
		}
		// It is right by itself: that its name is in no form is not asked for.
		checkFits(t, f, dont(), true)
		checkFits(t, withName(f, "elsewhere"), dont(), true)
		hard, said := f, withExpr(f, num(1).parts())
		hard.Hard = true
		wrong = append(wrong, hard, said, withExpr(f, always().parts()), withText(f, ""), withText(f, " a"), withText(f, "a "), withText(f, "\x7f"), withText(f, strings.Repeat("x", 61)), withText(f, tooLong()))
		for _, name := range notNames {
			wrong = append(wrong, withName(f, name))
		}
		for _, bounds := range [][2]int64{{5, -5}, {-mostNum - 1, 5}, {0, mostNum + 1}, {2, 5}, {1, 0}, {0, 0}, {1, 41}, {math.MinInt64, math.MaxInt64}} {
			if !boundsMade(f.Type, bounds[0], bounds[1]) {
				wrong = append(wrong, withBounds(f, bounds[0], bounds[1]))
			}
		}
		for _, kind := range noTypes {
			other := f
			other.Type = kind
			wrong = append(wrong, other)
		}
		for _, kind := range noItems {
			other := f
			other.Kind = kind
			wrong = append(wrong, other)
		}
	}
	for _, f := range append(wrong, impl.Item{}) {
		for _, v := range []impl.Value{nothing(), dont(), refuse(), integer(0), integer(1), choice(1), choices(), choices(1), words(""), words("a")} {
			checkFits(t, f, v, false)
		}
	}
	empty := withExpr(askInt("a"), []impl.Part{})
	checkFits(t, empty, integer(1), true)
}
