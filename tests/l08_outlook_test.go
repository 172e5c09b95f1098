package tests

import (
	"fmt"
	"math/big"
	"math/rand"
	"slices"
	"testing"

	"loop.example/g00561/impl"
)

// prospect is what the document says of an expression: of a number its span, of a truth what it can be.
type prospect struct {
	truth         bool
	span          impl.Span
	canBe, canNot bool
}

func ofSpan(low, high int64) prospect {
	return prospect{span: impl.Span{Low: low, High: high}}
}

func ofTruth(canBe, canNot bool) prospect {
	return prospect{truth: true, canBe: canBe, canNot: canNot}
}

func ofWrong() prospect {
	return prospect{span: impl.Span{Low: -impl.Most, High: impl.Most, Wrong: true}}
}

// checkProspect holds all three calls against it; what tells a number is no truth, and the other way round.
func checkProspect(t *testing.T, l []impl.Item, n node, want prospect) {
	t.Helper()
	x := n.parts()
	what := n.text()
	same(t, "SpanOf "+what, impl.SpanOf(l, x), want.span)
	same(t, "CanBe "+what, impl.CanBe(l, x), want.canBe)
	same(t, "CanNot "+what, impl.CanNot(l, x), want.canNot)
}

func checkNoProspect(t *testing.T, what string, l []impl.Item, x []impl.Part) {
	t.Helper()
	same(t, "SpanOf "+what, impl.SpanOf(l, x), impl.Span{})
	same(t, "CanBe "+what, impl.CanBe(l, x), false)
	same(t, "CanNot "+what, impl.CanNot(l, x), false)
}

// standsBehind is the document's word on the names in brackets.
func standsBehind(l []impl.Item, n node) bool {
	for _, p := range n.parts() {
		if p.Name == "" {
			continue
		}
		at := slices.IndexFunc(l, func(f impl.Item) bool { return f.Name == p.Name && isField(f.Kind) })
		switch {
		case at < 0:
			return false
		case p.Op == impl.ExField && (l[at].Type == impl.TySet || l[at].Type == impl.TyText):
			return false
		case p.Op == impl.ExHas && l[at].Type != impl.TySet:
			return false
		}
	}
	return true
}

func fieldProspect(l []impl.Item, name string) prospect {
	at := slices.IndexFunc(l, func(f impl.Item) bool { return f.Name == name })
	switch f := l[at]; {
	case f.Kind == impl.ItCompute:
		return ofSpan(-mostInt, mostInt)
	case f.Type == impl.TyCode:
		return ofSpan(1, f.High)
	default:
		return ofSpan(f.Low, f.High)
	}
}

// reckonedOf takes the least and the greatest of all four ways to put two ends together, by numbers without bounds.
func reckonedOf(op int64, a, b impl.Span) prospect {
	var all []*big.Int
	for _, first := range []int64{a.Low, a.High} {
		for _, second := range []int64{b.Low, b.High} {
			out := big.NewInt(first)
			switch op {
			case impl.ExPlus:
				out.Add(out, big.NewInt(second))
			case impl.ExMinus:
				out.Sub(out, big.NewInt(second))
			case impl.ExTimes:
				out.Mul(out, big.NewInt(second))
			}
			all = append(all, out)
		}
	}
	least, most := slices.MinFunc(all, (*big.Int).Cmp), slices.MaxFunc(all, (*big.Int).Cmp)
	if a.Wrong || b.Wrong || least.Cmp(big.NewInt(-impl.Most)) < 0 || most.Cmp(big.NewInt(impl.Most)) > 0 {
		return ofWrong()
	}
	return ofSpan(least.Int64(), most.Int64())
}

func comparedOf(op int64, a, b impl.Span) prospect {
	wrong := a.Wrong || b.Wrong
	switch op {
	case impl.ExSame:
		apart := a.High < b.Low || b.High < a.Low
		oneNumber := a.Low == a.High && b.Low == b.High && a.Low == b.Low
		return ofTruth(wrong || !apart, !oneNumber)
	case impl.ExBelow:
		return ofTruth(wrong || a.Low < b.High, wrong || a.High >= b.Low)
	}
	return ofTruth(wrong || a.Low <= b.High, wrong || a.High > b.Low)
}

// prospectIn takes a right form, and an expression that could stand behind its last Item.
func (n node) prospectIn(l []impl.Item) prospect {
	var in []prospect
	for _, inner := range n.in {
		in = append(in, inner.prospectIn(l))
	}
	switch op := n.part.Op; op {
	case impl.ExNum:
		return ofSpan(n.part.N, n.part.N)
	case impl.ExField:
		return fieldProspect(l, n.part.Name)
	case impl.ExPlus, impl.ExMinus, impl.ExTimes:
		return reckonedOf(op, in[0].span, in[1].span)
	case impl.ExSame, impl.ExBelow, impl.ExAtMost:
		return comparedOf(op, in[0].span, in[1].span)
	case impl.ExAnd:
		return ofTruth(in[0].canBe && in[1].canBe, in[0].canNot || in[1].canNot)
	case impl.ExOr:
		return ofTruth(in[0].canBe || in[1].canBe, in[0].canNot && in[1].canNot)
	case impl.ExNot:
		return ofTruth(in[0].canNot, in[0].canBe)
	}
	return ofTruth(true, true)
}

// narrowed has bounds so close that much can never be.
func narrowed(r *rand.Rand, l []impl.Item) []impl.Item {
	out := slices.Clone(l)
	for i, f := range out {
		switch f.Type {
		case impl.TyInt:
			low := r.Int63n(13) - 6
			out[i] = withBounds(f, low, low+r.Int63n(6))
		case impl.TyCode:
			out[i] = withBounds(f, 1, 1+r.Int63n(3))
		}
	}
	return out
}

// narrowForms are drawn, of one Item at least.
func narrowForms(seed int64, count int) [][]impl.Item {
	r := rand.New(rand.NewSource(seed))
	var out [][]impl.Item
	for _, l := range randomForms(seed+1, count) {
		if len(l) > 0 {
			out = append(out, narrowed(r, l))
		}
	}
	return out
}

// thousand times the square of mostNum is just Most.
const thousand = 1000

// wideForm has spans of each sort: below, around and above zero, of one number alone, and of the widest bounds.
func wideForm() []impl.Item {
	return []impl.Item{
		ask("low", impl.TyInt, -7, -3, "?"), ask("mid", impl.TyInt, -4, 5, "?"), ask("high", impl.TyInt, 2, 9, "?"), ask("one", impl.TyInt, 6, 6, "?"), ask("nought", impl.TyInt, 0, 0, "?"),
		ask("up", impl.TyInt, 0, mostNum, "?"), ask("down", impl.TyInt, -mostNum, 0, "?"), ask("all", impl.TyInt, -mostNum, mostNum, "?"), ask("code", impl.TyCode, 1, 3, "?"), ask("only", impl.TyCode, 1, 1, "?"),
		ask("set", impl.TySet, 1, 5, "?"), ask("text", impl.TyText, 0, 9, "?"), compute("k", num(1)), check("soft", always(), "?"), must("hard", always(), "?"),
	}
}

// numbersOf wideForm, and what is made of them.
func wideNumbers() []node {
	out := []node{num(0), num(1), num(-3), num(6), num(mostNum), num(-mostNum), over()}
	for _, name := range []string{"low", "mid", "high", "one", "nought", "up", "down", "all", "code", "only", "k"} {
		out = append(out, field(name))
	}
	for _, n := range slices.Clone(out) {
		out = append(out, two(impl.ExTimes, n, num(thousand)), two(impl.ExMinus, field("mid"), n))
	}
	return out
}

func TestPromise13TwoOfAll(t *testing.T) {
	l := wideForm()
	for _, a := range wideNumbers() {
		checkProspect(t, l, a, a.prospectIn(l))
		for _, b := range wideNumbers() {
			for _, op := range numberOps() {
				n := two(op, a, b)
				checkProspect(t, l, n, n.prospectIn(l))
			}
		}
	}
}

func TestPromise13Random(t *testing.T) {
	r := rand.New(rand.NewSource(131))
	count := map[prospect]int{}
	for _, l := range slices.Concat(narrowForms(132, 1500), narrowForms(133, 1500), [][]impl.Item{wideForm(), deskItems()}) {
		f := randomForm{r: r, items: l}
		for i := range 12 {
			n := f.right(i%3 > 0)
			want := n.prospectIn(l)
			checkProspect(t, l, n, want)
			want.span.Low, want.span.High = 0, 0
			count[want]++
		}
	}
	for _, p := range []prospect{ofSpan(0, 0), {span: impl.Span{Wrong: true}}, ofTruth(true, true), ofTruth(true, false), ofTruth(false, true)} {
		same(t, fmt.Sprintf("many are %v", p), count[p] > 100, true)
	}
	same(t, "nothing else is told", len(count), 5)
}

// TestPromise13Stands: expressions that were not drawn for the form are told of just if they could stand in it.
func TestPromise13Stands(t *testing.T) {
	forms := append(namedForms(), wideForm(), deskItems(), fieldsAhead())
	stood := 0
	for _, l := range forms {
		for _, n := range rightNodes() {
			if !standsBehind(l, n) {
				checkNoProspect(t, n.text(), l, n.parts())
				continue
			}
			checkProspect(t, l, n, n.prospectIn(l))
			stood++
		}
	}
	same(t, fmt.Sprintf("many stand: %d", stood), stood > 1000, true)
}

// namedForms have all names of drawn nodes as fields, of one Type each.
func namedForms() [][]impl.Item {
	all := append(slices.Clone(names), "b")
	var out [][]impl.Item
	for _, kind := range allTypes {
		var l []impl.Item
		for _, name := range all {
			l = append(l, askOf(name, kind))
		}
		out = append(out, l)
	}
	return out
}

// TestPromise13Told: what is told by what is Known of a route lies in what was said ahead of it.
func TestPromise13Told(t *testing.T) {
	r := rand.New(rand.NewSource(134))
	numbers, truths, tight := 0, 0, 0
	for _, l := range slices.Concat(narrowForms(135, 700), narrowForms(136, 700), randomForms(137, 300), [][]impl.Item{wideForm(), deskItems()}) {
		if len(l) == 0 {
			continue
		}
		f := randomForm{r: r, items: l}
		for range 4 {
			known := impl.RouteOf(l, answersFor(r, l)).Known
			for i := range 6 {
				n := f.right(i%2 == 0)
				x := n.parts()
				span, canBe, canNot := impl.SpanOf(l, x), impl.CanBe(l, x), impl.CanNot(l, x)
				switch got := impl.Eval(x, known); got.Kind {
				case impl.RsNum:
					same(t, fmt.Sprintf("%s tells %d, in %v", n.text(), got.N, span), span.Low <= got.N && got.N <= span.High, true)
					numbers++
				case impl.RsTruth:
					same(t, fmt.Sprintf("%s tells %d", n.text(), got.N), got == isSo && canBe || got == isNot && canNot, true)
					truths++
					if canBe != canNot {
						tight++
					}
				}
			}
		}
	}
	same(t, fmt.Sprintf("many are told: %d, %d, %d", numbers, truths, tight), numbers > 2000 && truths > 2000 && tight > 500, true)
}
