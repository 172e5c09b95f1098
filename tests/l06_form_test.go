package tests

import (
	"fmt"
	"math"
	"math/rand"
	"reflect"
	"regexp"
	"slices"
	"strings"
	"testing"

	"loop.example/g00561/impl"
)

const mostItems = 24

var noItems = []int64{0, -1, -6, 7, 8, 100, 256, 257, 1<<32 + 1, 1<<32 + 6, math.MinInt64, math.MinInt64 + 1, math.MaxInt64}

var noTypes = []int64{0, -1, -4, 5, 6, 100, 257, 1<<32 + 1, math.MinInt64, math.MaxInt64}

var allTypes = []int64{impl.TyInt, impl.TyCode, impl.TySet, impl.TyText}

var wordsOfTypes = map[int64]string{impl.TyInt: "int", impl.TyCode: "code", impl.TySet: "set", impl.TyText: "text"}

func ask(name string, kind, low, high int64, text string) impl.Item {
	return impl.Item{Kind: impl.ItAsk, Name: name, Type: kind, Low: low, High: high, Text: text}
}

func askInt(name string) impl.Item {
	return ask(name, impl.TyInt, -5, 5, "How many?")
}

// askOf is an ItAsk of that Type that is so made.
func askOf(name string, kind int64) impl.Item {
	switch kind {
	case impl.TyInt:
		return askInt(name)
	case impl.TyText:
		return ask(name, kind, 0, 9, "What?")
	}
	return ask(name, kind, 1, 9, "Which?")
}

func when(n node) impl.Item {
	return impl.Item{Kind: impl.ItIf, Expr: n.parts()}
}

func otherwise() impl.Item {
	return impl.Item{Kind: impl.ItElse}
}

func end() impl.Item {
	return impl.Item{Kind: impl.ItEnd}
}

func check(name string, n node, text string) impl.Item {
	return impl.Item{Kind: impl.ItCheck, Name: name, Expr: n.parts(), Text: text}
}

func must(name string, n node, text string) impl.Item {
	out := check(name, n, text)
	out.Hard = true
	return out
}

func compute(name string, n node) impl.Item {
	return impl.Item{Kind: impl.ItCompute, Name: name, Expr: n.parts()}
}

// always is a truth without a name in it.
func always() node {
	return two(impl.ExSame, num(1), num(1))
}

func below(a, b node) node {
	return two(impl.ExBelow, a, b)
}

// deskItems and deskText: the form of the document's chapter 13, by hand.
func deskItems() []impl.Item {
	return []impl.Item{
		ask("name", impl.TyText, 0, 20, "Who are you?"),
		ask("age", impl.TyInt, 0, 120, "How old is {name}?"),
		when(below(num(17), field("age"))),
		ask("work", impl.TyCode, 1, 3, "Work?"),
		check("young", below(field("age"), num(100)), "{name} is {age}?"),
		otherwise(),
		ask("school", impl.TyInt, 1, 13, "Class?"),
		compute("left", two(impl.ExMinus, num(13), field("school"))),
		end(),
		must("sane", below(field("age"), num(119)), "{age}?"),
		ask("likes", impl.TySet, 1, 4, "Which?"),
	}
}

const deskText = "ask name text 0 20 Who are you?\nask age int 0 120 How old is {name}?\nif (17 < age)\nask work code 1 3 Work?\ncheck young (age < 100) : {name} is {age}?\nelse\nask school int 1 13 Class?\ncompute left (13 - school)\nend\nmust sane (age < 119) : {age}?\nask likes set 1 4 Which?\n"

// fieldsAhead has a field of each sort: i, c, s and t are asked, k is computed.
func fieldsAhead() []impl.Item {
	return []impl.Item{askOf("i", impl.TyInt), askOf("c", impl.TyCode), askOf("s", impl.TySet), askOf("t", impl.TyText), compute("k", num(1))}
}

// around is a form that is right just if the Item in it is so made, and asks for fieldsAhead alone.
func around(f impl.Item) []impl.Item {
	l := fieldsAhead()
	switch f.Kind {
	case impl.ItIf:
		return append(l, f, end())
	case impl.ItElse:
		return append(l, when(always()), f, end())
	case impl.ItEnd:
		return append(l, when(always()), f)
	}
	return append(l, f)
}

// soMade has of each Kind, and each Type, Items that are so made.
func soMade() []impl.Item {
	out := []impl.Item{otherwise(), end()}
	for _, kind := range allTypes {
		out = append(out, askOf("new", kind))
	}
	for _, n := range []node{always(), known("t"), has("s", 3), not(known("k")), below(field("i"), field("c"))} {
		out = append(out, when(n), check("new", n, "Sure?"), must("new", n, "Sure?"))
	}
	for _, n := range []node{num(-7), field("i"), field("c"), field("k"), two(impl.ExPlus, field("i"), num(2))} {
		out = append(out, compute("new", n))
	}
	return out
}

func itemsOf(kinds ...int64) []impl.Item {
	return slices.DeleteFunc(soMade(), func(f impl.Item) bool { return !slices.Contains(kinds, f.Kind) })
}

func withName(f impl.Item, name string) impl.Item {
	f.Name = name
	return f
}

func withText(f impl.Item, text string) impl.Item {
	f.Text = text
	return f
}

func withBounds(f impl.Item, low, high int64) impl.Item {
	f.Low, f.High = low, high
	return f
}

func withExpr(f impl.Item, x []impl.Part) impl.Item {
	f.Expr = x
	return f
}

func hasName(kind int64) bool {
	return kind == impl.ItAsk || kind == impl.ItCheck || kind == impl.ItCompute
}

func hasExpr(kind int64) bool {
	return kind == impl.ItIf || kind == impl.ItCheck || kind == impl.ItCompute
}

func hasText(kind int64) bool {
	return kind == impl.ItAsk || kind == impl.ItCheck
}

func isField(kind int64) bool {
	return kind == impl.ItAsk || kind == impl.ItCompute
}

// sameItem has an empty Expr and none be the same.
func sameItem(t *testing.T, what string, got, want impl.Item) {
	t.Helper()
	alike := got.Kind == want.Kind && got.Name == want.Name && got.Type == want.Type && got.Low == want.Low && got.High == want.High && got.Text == want.Text && slices.Equal(got.Expr, want.Expr) && got.Hard == want.Hard
	if !alike {
		t.Errorf("%s: got %s, want %s", what, shown(got), shown(want))
	}
}

func sameItems(t *testing.T, what string, got, want []impl.Item) {
	t.Helper()
	if len(got) != len(want) {
		t.Errorf("%s: got %d items, want %d", what, len(got), len(want))
		return
	}
	for i := range want {
		sameItem(t, fmt.Sprintf("%s: the item at %d", what, i), got[i], want[i])
	}
}

// The document's words on an Item, and on its line, said by patterns.
const (
	namePattern = `[a-z][a-z0-9_]{0,19}`
	textPattern = `[!-~](?:[ -~]{0,58}[!-~])?`
	numPattern  = `0|-?[1-9][0-9]*`
)

var (
	onlyName    = regexp.MustCompile(`\A(?:` + namePattern + `)\z`)
	onlyText    = regexp.MustCompile(`\A(?:` + textPattern + `)\z`)
	lineAsk     = regexp.MustCompile(`\Aask (` + namePattern + `) (int|code|set|text) (` + numPattern + `) (` + numPattern + `) (` + textPattern + `)\z`)
	lineIf      = regexp.MustCompile(`\Aif ([ -~]*)\z`)
	lineCheck   = regexp.MustCompile(`\A(check|must) (` + namePattern + `) ([ -9;-~]*) : (` + textPattern + `)\z`)
	lineCompute = regexp.MustCompile(`\Acompute (` + namePattern + `) ([ -~]*)\z`)
)

func boundsMade(kind, low, high int64) bool {
	switch kind {
	case impl.TyInt:
		return -mostNum <= low && low <= high && high <= mostNum
	case impl.TyCode, impl.TySet:
		return low == 1 && 1 <= high && high <= 20
	case impl.TyText:
		return low == 0 && 1 <= high && high <= 40
	}
	return false
}

func tellsNumber(x []impl.Part) bool {
	return impl.ExprRight(x) && !impl.ExprTruth(x)
}

// itemMade is the document's word on one Item: it makes a bare one of what is named, which must be all there is.
func itemMade(f impl.Item) bool {
	bare, made := impl.Item{Kind: f.Kind}, false
	switch f.Kind {
	case impl.ItAsk:
		bare = ask(f.Name, f.Type, f.Low, f.High, f.Text)
		made = onlyName.MatchString(f.Name) && onlyText.MatchString(f.Text) && boundsMade(f.Type, f.Low, f.High)
	case impl.ItIf:
		bare.Expr = f.Expr
		made = impl.ExprTruth(f.Expr)
	case impl.ItElse, impl.ItEnd:
		made = true
	case impl.ItCheck:
		bare.Name, bare.Expr, bare.Text, bare.Hard = f.Name, f.Expr, f.Text, f.Hard
		made = onlyName.MatchString(f.Name) && impl.ExprTruth(f.Expr) && onlyText.MatchString(f.Text)
	case impl.ItCompute:
		bare.Name, bare.Expr = f.Name, f.Expr
		made = onlyName.MatchString(f.Name) && tellsNumber(f.Expr)
	}
	return made && slices.Equal(bare.Expr, f.Expr) && reflect.DeepEqual(withExpr(bare, nil), withExpr(f, nil))
}

// blocksEnd takes what stands in a block away from the inside outwards, until nothing of it is left.
func blocksEnd(l []impl.Item) bool {
	kinds := ""
	for _, f := range l {
		switch f.Kind {
		case impl.ItIf:
			kinds += "("
		case impl.ItElse:
			kinds += "|"
		case impl.ItEnd:
			kinds += ")"
		}
	}
	for range 6 {
		kinds = strings.ReplaceAll(strings.ReplaceAll(kinds, "(|)", "*"), "()", "*")
		// What is left beside others in a block is as if it were not there, once the blocks at this depth are done.
		kinds = strings.ReplaceAll(kinds, "*", "")
	}
	return kinds == ""
}

// formMade is the document's word on a form.
func formMade(l []impl.Item) bool {
	if len(l) > mostItems {
		return false
	}
	ahead := map[string]impl.Item{}
	for _, f := range l {
		if !itemMade(f) {
			return false
		}
		for _, p := range f.Expr {
			g, there := ahead[p.Name]
			ofNumber := isField(g.Kind) && g.Type != impl.TySet && g.Type != impl.TyText
			switch {
			case p.Name == "":
			case !there || !isField(g.Kind):
				return false
			case p.Op == impl.ExField && !ofNumber, p.Op == impl.ExHas && g.Type != impl.TySet:
				return false
			}
		}
		if _, there := ahead[f.Name]; there && hasName(f.Kind) {
			return false
		}
		if hasName(f.Kind) {
			ahead[f.Name] = f
		}
	}
	return blocksEnd(l)
}

// lineOf takes an Item that is so made; its Expr is told by the program, whose promise 7 is tested by itself.
func lineOf(f impl.Item) string {
	x := impl.ExprText(f.Expr)
	switch f.Kind {
	case impl.ItAsk:
		return fmt.Sprintf("ask %s %s %d %d %s", f.Name, wordsOfTypes[f.Type], f.Low, f.High, f.Text)
	case impl.ItIf:
		return "if " + x
	case impl.ItElse:
		return "else"
	case impl.ItEnd:
		return "end"
	case impl.ItCompute:
		return "compute " + f.Name + " " + x
	}
	word := map[bool]string{false: "check", true: "must"}[f.Hard]
	return word + " " + f.Name + " " + x + " : " + f.Text
}

func linesOf(l []impl.Item) string {
	text := ""
	for _, f := range l {
		text += lineOf(f) + "\n"
	}
	return text
}

// randomForm has blocks, fields and conditions on those that are ahead; it is right by how it is made.
type randomForm struct {
	r     *rand.Rand
	items []impl.Item
	open  []bool
}

// fieldsFor are the Names that may stand in a Part of that op.
func (f *randomForm) fieldsFor(op int64) []string {
	var out []string
	for _, g := range f.items {
		ofNumber := g.Kind == impl.ItCompute || g.Type == impl.TyInt || g.Type == impl.TyCode
		if op == impl.ExField && ofNumber || op == impl.ExHas && g.Type == impl.TySet || op == impl.ExKnown && isField(g.Kind) {
			out = append(out, g.Name)
		}
	}
	return out
}

func (f *randomForm) node(truth bool, deep int) node {
	r := f.r
	if deep > 1 && r.Intn(3) > 0 {
		if truth && r.Intn(4) == 0 {
			return not(f.node(true, deep-1))
		}
		op := opsOfTwo[r.Intn(3)]
		if truth {
			op = opsOfTwo[3+r.Intn(5)]
		}
		return two(op, f.node(takesTruths(op), deep-1), f.node(takesTruths(op), deep-1))
	}
	op := []int64{impl.ExHas, impl.ExKnown}[r.Intn(2)]
	if !truth {
		op = impl.ExField
	}
	names := f.fieldsFor(op)
	switch {
	case len(names) == 0 && truth && deep == 1:
		return known(f.items[0].Name)
	case len(names) == 0 && truth:
		return always()
	case len(names) == 0 || !truth && r.Intn(2) == 0:
		return num(r.Int63n(41) - 20)
	}
	n := node{part: impl.Part{Op: op, Name: names[r.Intn(len(names))]}}
	if op == impl.ExHas {
		n.part.N = 1 + r.Int63n(20)
	}
	return n
}

func (f *randomForm) right(truth bool) node {
	for {
		if n := f.node(truth, 1+f.r.Intn(5)); n.right() {
			return n
		}
	}
}

func (f *randomForm) text() string {
	all := []string{"?", "A: b", ": c", "x : y", "Who {age}?", "a  b", strings.Repeat("w", 60), "end", `"`, "{", "~!", "1"}
	return all[f.r.Intn(len(all))]
}

func (f *randomForm) ask(name string) impl.Item {
	out := askOf(name, allTypes[f.r.Intn(4)])
	out.Text = f.text()
	switch out.Type {
	case impl.TyInt:
		out.Low = f.r.Int63n(2*mostNum+1) - mostNum
		out.High = out.Low + f.r.Int63n(mostNum-out.Low+1)
	case impl.TyText:
		out.High = 1 + f.r.Int63n(40)
	default:
		out.High = 1 + f.r.Int63n(20)
	}
	return out
}

func (f *randomForm) add(room int) {
	r, last := f.r, len(f.open)-1
	name := fmt.Sprintf("f%d", len(f.items))
	switch kind := r.Intn(8); {
	case len(f.items) == 0 || kind < 2 || kind > 5 && last < 0:
		f.items = append(f.items, f.ask(name))
	case kind == 2:
		out := check(name, f.right(true), f.text())
		out.Hard = r.Intn(2) == 0
		f.items = append(f.items, out)
	case kind == 3:
		f.items = append(f.items, compute(name, f.right(false)))
	case kind < 6 && len(f.open) < 6 && len(f.open)+1 < room:
		f.items = append(f.items, when(f.right(true)))
		f.open = append(f.open, false)
	case kind == 6 && last >= 0 && !f.open[last]:
		f.items = append(f.items, otherwise())
		f.open[last] = true
	case last >= 0:
		f.items = append(f.items, end())
		f.open = f.open[:last]
	}
}

func randomItems(r *rand.Rand, count int) []impl.Item {
	f := randomForm{r: r}
	for len(f.items)+len(f.open) < count {
		f.add(count - len(f.items))
	}
	for range f.open {
		f.items = append(f.items, end())
	}
	return f.items
}

func randomForms(seed int64, count int) [][]impl.Item {
	r := rand.New(rand.NewSource(seed))
	var out [][]impl.Item
	for range count {
		out = append(out, randomItems(r, r.Intn(mostItems+1)))
	}
	return out
}

// manyItems are so many asks.
func manyItems(count int) []impl.Item {
	var out []impl.Item
	for at := range count {
		out = append(out, askOf(nameAt(at), allTypes[at%4]))
	}
	return out
}

// rightForms: none to 24 Items long, with each Kind in them.
func rightForms() [][]impl.Item {
	out := [][]impl.Item{nil, {}, deskItems(), fieldsAhead(), manyItems(1), manyItems(23), manyItems(24)}
	for _, f := range soMade() {
		out = append(out, around(f))
	}
	return append(out, randomForms(100, 60)...)
}

// wrongForms: a list for each way to be no form, none of more than MaxList.
func wrongForms() [][]impl.Item {
	out := [][]impl.Item{
		{{}}, manyItems(25), manyItems(26), manyItems(impl.MaxList), make([]impl.Item, impl.MaxList), {otherwise()}, {end()}, {when(always())}, {when(always()), otherwise()},
		{askInt("a"), askInt("a")}, {askInt("a"), compute("a", num(1))}, {askInt("a"), check("a", always(), "?")}, {compute("b", field("a"))}, {compute("a", field("a"))},
		{when(known("a")), askInt("a"), end()}, {askOf("a", impl.TyText), compute("b", field("a"))}, {askInt("a"), when(has("a", 1)), end()}, {check("a", always(), "?"), when(known("a")), end()},
	}
	for _, f := range soMade() {
		f.Type += 5
		out = append(out, around(f))
	}
	for _, kind := range noItems {
		out = append(out, append(deskItems(), impl.Item{Kind: kind}), append([]impl.Item{{Kind: kind}}, deskItems()...))
	}
	return out
}

func longForms() [][]impl.Item {
	return [][]impl.Item{make([]impl.Item, impl.MaxList+1), slices.Repeat([]impl.Item{askInt("a")}, impl.MaxList+1), manyItems(impl.MaxList + 1), manyItems(2 * impl.MaxList)}
}
