package tests

import (
	"fmt"
	"math/rand"
	"slices"
	"strings"
	"testing"

	"loop.example/g00561/impl"
)

// block is an Item that is no block, or an ItIf and what stands ahead of and behind its ItElse.
type block struct {
	item    impl.Item
	yes, no []block
}

// blocksOf takes a right form, or what is left of one behind the beginning of a block: that ends at what it tells beside.
func blocksOf(l []impl.Item) ([]block, []impl.Item) {
	var out []block
	for len(l) > 0 && l[0].Kind != impl.ItElse && l[0].Kind != impl.ItEnd {
		b := block{item: l[0]}
		l = l[1:]
		if b.item.Kind == impl.ItIf {
			b.yes, l = blocksOf(l)
			if l[0].Kind == impl.ItElse {
				b.no, l = blocksOf(l[1:])
			}
			l = l[1:]
		}
		out = append(out, b)
	}
	return out, l
}

// treeOf is the expression at the head of right Parts, and what is left behind it.
func treeOf(x []impl.Part) (node, []impl.Part) {
	n, left := node{part: x[0]}, x[1:]
	inner := 0
	switch {
	case n.part.Op == impl.ExNot:
		inner = 1
	case slices.Contains(opsOfTwo, n.part.Op):
		inner = 2
	}
	for range inner {
		var in node
		in, left = treeOf(left)
		n.in = append(n.in, in)
	}
	return n, left
}

func tellsBy(x []impl.Part, known []impl.Answer) impl.Result {
	n, _ := treeOf(x)
	return n.tells(known)
}

// gone is the document's word on the way, by the tree of its blocks; it tells whether it goes on behind them.
func gone(r *impl.Route, blocks []block, a []impl.Answer) bool {
	for _, b := range blocks {
		f := b.item
		switch f.Kind {
		case impl.ItAsk:
			r.Path = append(r.Path, f.Name)
			v := answerIn(a, f.Name)
			if !fitting(f, v) {
				r.Current = f.Name
				return false
			}
			r.Known = withPut(r.Known, f.Name, v)
		case impl.ItIf:
			branch := b.no
			if tellsBy(f.Expr, r.Known) == isSo {
				branch = b.yes
			}
			if !gone(r, branch, a) {
				return false
			}
		case impl.ItCheck:
			if tellsBy(f.Expr, r.Known) == isNot {
				r.Broken = append(r.Broken, f.Name)
			}
		case impl.ItCompute:
			told := tellsBy(f.Expr, r.Known)
			if told.Kind == impl.RsNum && -mostInt <= told.N && told.N <= mostInt {
				r.Known = withPut(r.Known, f.Name, integer(told.N))
			}
		}
	}
	return true
}

// wayOf takes a right form and right answers.
func wayOf(l []impl.Item, a []impl.Answer) impl.Route {
	var r impl.Route
	blocks, _ := blocksOf(l)
	r.Done = gone(&r, blocks, a)
	return r
}

func sameNames(t *testing.T, what string, got, want []string) {
	t.Helper()
	same(t, what, strings.Join(got, " "), strings.Join(want, " "))
	same(t, what+": how many", len(got), len(want))
}

func sameRoute(t *testing.T, what string, got, want impl.Route) {
	t.Helper()
	sameNames(t, what+": Path", got.Path, want.Path)
	sameAnswers(t, what+": Known", got.Known, want.Known)
	sameNames(t, what+": Broken", got.Broken, want.Broken)
	same(t, what+": Current", got.Current, want.Current)
	same(t, what+": Done", got.Done, want.Done)
}

func hardIn(l []impl.Item, names []string) bool {
	return slices.ContainsFunc(l, func(f impl.Item) bool { return f.Hard && slices.Contains(names, f.Name) })
}

// knownOn are the names of the Path that are Known, too.
func knownOn(r impl.Route) []string {
	return slices.DeleteFunc(slices.Clone(r.Path), func(name string) bool { return answerIn(r.Known, name).Kind == impl.VaNone })
}

// checkWay holds all that is told of a way against that Route.
func checkWay(t *testing.T, what string, l []impl.Item, a []impl.Answer, want impl.Route) {
	t.Helper()
	got := impl.RouteOf(l, a)
	sameRoute(t, what, got, want)
	same(t, what+": Known is right", impl.AnswersRight(got.Known), true)
	same(t, what+": Done or Current", got.Done, got.Current == "")
	same(t, what+": each name once", len(slices.Compact(slices.Sorted(slices.Values(got.Path)))), len(got.Path))
	for _, f := range l {
		same(t, what+": on the path: "+f.Name, impl.OnPath(l, a, f.Name), slices.Contains(want.Path, f.Name))
	}
	same(t, what+": how many", impl.CountOf(l, a), int64(len(knownOn(want))))
	same(t, what+": hard", impl.HardBroken(l, a), hardIn(l, want.Broken))
}

// checkNoWay is of a form, or answers, that are not right.
func checkNoWay(t *testing.T, what string, l []impl.Item, a []impl.Answer) {
	t.Helper()
	sameRoute(t, what, impl.RouteOf(l, a), impl.Route{})
	for _, name := range []string{"", "a", "age", "name", "sane", "hard", "zzz"} {
		same(t, what+": on the path: "+name, impl.OnPath(l, a, name), false)
		same(t, what+": the text of "+name, impl.FillOf(l, a, name), "")
	}
	for _, f := range l[:min(len(l), 30)] {
		same(t, what+": on the path: "+f.Name, impl.OnPath(l, a, f.Name), false)
		same(t, what+": the text of "+f.Name, impl.FillOf(l, a, f.Name), "")
	}
	same(t, what+": how many", impl.CountOf(l, a), int64(0))
	same(t, what+": hard", impl.HardBroken(l, a), false)
}

// namely has answers rising by Name, whatever their order.
func namely(all ...impl.Answer) []impl.Answer {
	var out []impl.Answer
	for _, a := range all {
		out = withPut(out, a.Name, a.Value)
	}
	return out
}

// answersAhead are to what is asked in fieldsAhead.
func answersAhead() []impl.Answer {
	return namely(answer("i", integer(3)), answer("c", choice(2)), answer("s", choices(1, 2)), answer("t", words("x")))
}

// never is a truth without a name in it that does not hold.
func never() node {
	return two(impl.ExSame, num(1), num(2))
}

// over can't be reckoned.
func over() node {
	return two(impl.ExTimes, num(mostNum), two(impl.ExTimes, num(mostNum), num(mostNum)))
}

// condition is a truth on fieldsAhead, the answers to these, and what it tells by them.
type condition struct {
	n     node
	a     []impl.Answer
	tells impl.Result
}

func conditions() []condition {
	a := answersAhead()
	silent := namely(answer("i", dont()), answer("c", refuse()), answer("s", dont()), answer("t", refuse()))
	return []condition{
		{always(), a, isSo}, {below(field("i"), num(4)), a, isSo}, {two(impl.ExSame, field("c"), num(2)), a, isSo}, {has("s", 1), a, isSo}, {known("t"), a, isSo}, {below(field("k"), num(2)), a, isSo},
		{two(impl.ExOr, always(), has("s", 1)), silent, isSo}, {not(known("i")), silent, isSo}, {two(impl.ExOr, always(), two(impl.ExSame, over(), num(1))), a, isSo},
		{never(), a, isNot}, {below(field("i"), num(3)), a, isNot}, {has("s", 3), a, isNot}, {not(known("t")), a, isNot}, {below(num(1), field("k")), a, isNot},
		{known("i"), silent, isNot}, {known("t"), silent, isNot}, {two(impl.ExAnd, has("s", 1), never()), silent, isNot},
		{below(field("i"), num(4)), silent, isDark}, {not(below(field("i"), num(4))), silent, isDark}, {has("s", 1), silent, isDark}, {two(impl.ExSame, field("c"), field("k")), silent, isDark},
		{two(impl.ExSame, over(), num(1)), a, isWrong}, {not(two(impl.ExSame, over(), over())), a, isWrong}, {below(over(), field("i")), silent, isWrong}, {two(impl.ExAnd, always(), below(num(1), over())), a, isWrong},
	}
}

// aheadRoute is what is told behind fieldsAhead.
func aheadRoute(a []impl.Answer) impl.Route {
	return impl.Route{Path: []string{"i", "c", "s", "t"}, Known: withPut(a, "k", integer(1))}
}

// fitFor is an answer that fits an ItAsk.
func fitFor(r *rand.Rand, f impl.Item) impl.Value {
	switch r.Intn(8) {
	case 0:
		return dont()
	case 1:
		return refuse()
	}
	switch f.Type {
	case impl.TyInt:
		return integer(f.Low + r.Int63n(f.High-f.Low+1))
	case impl.TyCode:
		return choice(1 + r.Int63n(f.High))
	case impl.TySet:
		codes := slices.DeleteFunc(allCodes(), func(code int64) bool { return code > f.High || r.Intn(2) == 0 })
		return choices(codes...)
	}
	texts := []string{"", "x", "{", "}", "{f0}", "{f1}", `"`, "a b", "?"}
	text := texts[r.Intn(len(texts))]
	return words(text[:min(len(text), int(f.High))])
}

// answersFor fit most of what is asked in the form, and are of other names besides.
func answersFor(r *rand.Rand, l []impl.Item) []impl.Answer {
	var out []impl.Answer
	lacks := r.Intn(30)
	for _, f := range l {
		switch {
		case !hasName(f.Kind), r.Intn(40) < lacks/6:
		case f.Kind == impl.ItAsk && r.Intn(40) > lacks/10:
			out = withPut(out, f.Name, fitFor(r, f))
		case f.Kind == impl.ItAsk || r.Intn(3) == 0:
			out = withPut(out, f.Name, someOf(r.Intn(50)))
		}
	}
	for range r.Intn(4) {
		out = withPut(out, fmt.Sprintf("z%d", r.Intn(5)), someOf(r.Intn(50)))
	}
	return out
}

// answered is a form and answers, both right.
type answered struct {
	l []impl.Item
	a []impl.Answer
}

func answersOfForm(r *rand.Rand, l []impl.Item) []answered {
	var out []answered
	for range 3 {
		out = append(out, answered{l, answersFor(r, l)})
	}
	return out
}

func randomWays(seed int64, count int) []answered {
	r := rand.New(rand.NewSource(seed))
	var out []answered
	for _, l := range randomForms(seed, count) {
		out = append(out, answersOfForm(r, l)...)
	}
	return out
}

// handWays: forms and answers of each sort, ways that are done, and that are not.
func handWays() []answered {
	desk := deskItems()
	grown := namely(answer("name", words("Ann")), answer("age", integer(30)), answer("work", choice(2)), answer("likes", choices(1, 4)))
	young := namely(answer("name", words("Bob")), answer("age", integer(10)), answer("school", integer(5)), answer("likes", choices()), answer("work", choice(1)))
	out := []answered{
		{nil, nil}, {nil, oneOfEach()}, {desk, nil}, {desk, grown}, {desk, young}, {desk, oneOfEach()}, {desk, withPut(grown, "age", integer(120))}, {desk, withPut(grown, "age", dont())}, {desk, withPut(young, "likes", choices(5))},
		{manyItems(24), manyAnswers(24)}, {manyItems(24), manyAnswers(30)}, {fieldsAhead(), answersAhead()},
	}
	for _, c := range conditions() {
		l := append(fieldsAhead(), must("hard", c.n, "{i} {t}?"), when(c.n), check("soft", c.n, "{s}?"), otherwise(), askInt("x"), end(), compute("y", field("i")))
		out = append(out, answered{l, c.a}, answered{l, withPut(c.a, "x", integer(1))})
	}
	return out
}

// allBlocks are all right forms of up to seven Items of five sorts, each ItAsk answered.
func allBlocks() []answered {
	marks := []impl.Item{when(always()), when(never()), otherwise(), end(), askInt("a")}
	var out []answered
	for size := range 8 {
		sorts := 1
		for range size {
			sorts *= len(marks)
		}
		for number := range sorts {
			l, a := make([]impl.Item, size), []impl.Answer(nil)
			for at, rest := 0, number; at < size; at, rest = at+1, rest/len(marks) {
				l[at] = marks[rest%len(marks)]
				if l[at].Kind == impl.ItAsk {
					l[at].Name = nameAt(at)
					a = append(a, answer(nameAt(at), integer(1)))
				}
			}
			if blocksEnd(l) {
				out = append(out, answered{l, a})
			}
		}
	}
	return out
}
