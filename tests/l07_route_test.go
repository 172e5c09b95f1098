package tests

import (
	"fmt"
	"slices"
	"strings"
	"testing"

	"loop.example/g00561/impl"
)

func TestPromise11Desk(t *testing.T) {
	desk := deskItems()
	name, age := answer("name", words("Ann")), answer("age", integer(30))
	work, likes, school := answer("work", choice(2)), answer("likes", choices(1, 4)), answer("school", integer(5))
	child, left := answer("age", integer(17)), answer("left", integer(8))
	for _, c := range []struct {
		what string
		a    []impl.Answer
		want impl.Route
	}{
		{"nothing yet", nil, impl.Route{Path: []string{"name"}, Current: "name"}},
		{"not the first one", namely(age, work), impl.Route{Path: []string{"name"}, Current: "name"}},
		{"one", namely(name), impl.Route{Path: []string{"name", "age"}, Known: namely(name), Current: "age"}},
		{"of age", namely(name, age), impl.Route{Path: []string{"name", "age", "work"}, Known: namely(name, age), Current: "work"}},
		{"school is off", namely(name, age, school), impl.Route{Path: []string{"name", "age", "work"}, Known: namely(name, age), Current: "work"}},
		{"nearly done", namely(name, age, work), impl.Route{Path: []string{"name", "age", "work", "likes"}, Known: namely(name, age, work), Current: "likes"}},
		{"done", namely(name, age, work, likes), impl.Route{Path: []string{"name", "age", "work", "likes"}, Known: namely(name, age, work, likes), Done: true}},
		{"done, school is off", namely(name, age, work, likes, school), impl.Route{Path: []string{"name", "age", "work", "likes"}, Known: namely(name, age, work, likes), Done: true}},
		{"not of age", namely(name, child), impl.Route{Path: []string{"name", "age", "school"}, Known: namely(name, child), Current: "school"}},
		{"work is off", namely(name, child, work, likes), impl.Route{Path: []string{"name", "age", "school"}, Known: namely(name, child), Current: "school"}},
		{"left is told", namely(name, child, school), impl.Route{Path: []string{"name", "age", "school", "likes"}, Known: namely(name, child, school, left), Current: "likes"}},
		{"school, done", namely(name, child, school, likes), impl.Route{Path: []string{"name", "age", "school", "likes"}, Known: namely(name, child, school, likes, left), Done: true}},
		{"young is broken", namely(name, answer("age", integer(100)), work), impl.Route{Path: []string{"name", "age", "work", "likes"}, Known: namely(name, answer("age", integer(100)), work), Broken: []string{"young"}, Current: "likes"}},
		{"both are broken", namely(name, answer("age", integer(119)), work), impl.Route{Path: []string{"name", "age", "work", "likes"}, Known: namely(name, answer("age", integer(119)), work), Broken: []string{"young", "sane"}, Current: "likes"}},
		{"age does not fit", namely(name, answer("age", integer(121)), work), impl.Route{Path: []string{"name", "age"}, Known: namely(name), Current: "age"}},
		{"no age is told", namely(name, answer("age", dont()), school, likes), impl.Route{Path: []string{"name", "age", "school", "likes"}, Known: namely(name, answer("age", dont()), school, likes, left), Done: true}},
		{"no school is told", namely(name, child, answer("school", refuse()), likes), impl.Route{Path: []string{"name", "age", "school", "likes"}, Known: namely(name, child, answer("school", refuse()), likes), Done: true}},
	} {
		checkWay(t, c.what, desk, c.a, c.want)
		sameRoute(t, c.what+": the document's word", wayOf(desk, c.a), c.want)
	}
}

func TestPromise11NoItems(t *testing.T) {
	for _, l := range [][]impl.Item{nil, {}} {
		for _, a := range [][]impl.Answer{nil, {}, oneOfEach(), manyAnswers(30)} {
			checkWay(t, "no items", l, a, impl.Route{Done: true})
			same(t, "the empty text is on no path", impl.OnPath(l, a, ""), false)
		}
	}
}

func TestPromise11NotRight(t *testing.T) {
	broken := []impl.Item{must("hard", never(), "?"), askInt("a")}
	whole := namely(answer("a", integer(1)))
	for _, l := range slices.Concat(wrongForms(), longForms(), [][]impl.Item{append(slices.Clone(broken), impl.Item{}), append(slices.Clone(broken), end()), append(slices.Clone(broken), askInt("a"))}) {
		for _, a := range [][]impl.Answer{nil, whole, manyAnswers(30)} {
			checkNoWay(t, "no form: "+shown(l), l, a)
		}
	}
	for _, a := range slices.Concat(wrongAnswers(), longAnswers()) {
		for _, l := range [][]impl.Item{nil, broken, deskItems(), manyItems(24)} {
			checkNoWay(t, "no answers: "+shown(a), l, a)
		}
	}
	for _, a := range longAnswers() {
		for _, l := range longForms() {
			checkNoWay(t, "both too long", l, a)
		}
	}
}

func TestPromise11Ask(t *testing.T) {
	behind := askInt("last")
	for _, f := range allAsks() {
		l := []impl.Item{f, behind}
		checkWay(t, "no answer", l, nil, impl.Route{Path: []string{"a"}, Current: "a"})
		for _, v := range allValues()[1:] {
			a := namely(answer("a", v), answer("other", integer(1)))
			want := impl.Route{Path: []string{"a"}, Current: "a"}
			if fitting(f, v) {
				want = impl.Route{Path: []string{"a", "last"}, Known: namely(answer("a", v)), Current: "last"}
			}
			checkWay(t, shown(v)+" in "+shown(f), l, a, want)
		}
		for _, v := range []impl.Value{dont(), refuse()} {
			a := namely(answer("a", v), answer("last", v))
			checkWay(t, "not told", l, a, impl.Route{Path: []string{"a", "last"}, Known: a, Done: true})
		}
	}
}

func TestPromise11AskOneByOne(t *testing.T) {
	for count := range mostItems + 1 {
		l := manyItems(count)
		var a []impl.Answer
		var path []string
		for _, f := range l {
			path = append(path, f.Name)
			checkWay(t, f.Name, l, a, impl.Route{Path: path, Known: a, Current: f.Name})
			a = withPut(a, f.Name, refuse())
		}
		checkWay(t, "done", l, a, impl.Route{Path: path, Known: a, Done: true})
		for _, f := range l {
			less := slices.DeleteFunc(slices.Clone(a), func(a impl.Answer) bool { return a.Name >= f.Name })
			more := slices.DeleteFunc(slices.Clone(a), func(a impl.Answer) bool { return a.Name == f.Name })
			checkWay(t, "one lacks", l, more, impl.Route{Path: path[:len(less)+1], Known: less, Current: f.Name})
		}
	}
}

func TestPromise11If(t *testing.T) {
	inner := namely(answer("x", integer(1)), answer("y", integer(2)), answer("z", integer(3)))
	x, y, z := askInt("x"), askInt("y"), askInt("z")
	for i, c := range conditions() {
		a := slices.Clone(c.a)
		for _, b := range inner {
			a = withPut(a, b.Name, b.Value)
		}
		for _, s := range []struct {
			what    string
			items   []impl.Item
			yes, no []string
		}{
			{"empty", []impl.Item{when(c.n), end(), z}, []string{"z"}, []string{"z"}},
			{"without else", []impl.Item{when(c.n), x, end(), z}, []string{"x", "z"}, []string{"z"}},
			{"with an else", []impl.Item{when(c.n), x, otherwise(), y, end(), z}, []string{"x", "z"}, []string{"y", "z"}},
			{"with an empty else", []impl.Item{when(c.n), x, otherwise(), end(), z}, []string{"x", "z"}, []string{"z"}},
			{"with an else alone", []impl.Item{when(c.n), otherwise(), y, end(), z}, []string{"z"}, []string{"y", "z"}},
			{"at the end", []impl.Item{z, when(c.n), x, otherwise(), y, end()}, []string{"z", "x"}, []string{"z", "y"}},
			{"a block in it", []impl.Item{when(c.n), when(always()), otherwise(), x, end(), otherwise(), when(never()), x, otherwise(), y, end(), end(), z}, []string{"z"}, []string{"y", "z"}},
		} {
			names := s.no
			if c.tells == isSo {
				names = s.yes
			}
			want := aheadRoute(c.a)
			want.Path = append(want.Path, names...)
			want.Done = true
			for _, name := range names {
				want.Known = withPut(want.Known, name, answerIn(inner, name))
			}
			if s.what == "a block in it" {
				// There x would stand twice; one of them is another name.
				s.items[7].Name = "w"
			}
			checkWay(t, fmt.Sprintf("condition %d, %s", i, s.what), append(fieldsAhead(), s.items...), a, want)
		}
	}
}

// TestPromise11IfGrows: what an ItIf asks for is what is known where it stands, and only if it is on the path.
func TestPromise11IfGrows(t *testing.T) {
	a := namely(answer("a", integer(1)), answer("b", integer(2)), answer("c", integer(3)), answer("k", integer(5)))
	l := []impl.Item{askInt("a"), when(below(field("a"), num(1))), askInt("b"), compute("k", num(1)), end(), when(known("b")), askInt("x"), end(), when(known("k")), askInt("y"), end(), askInt("c")}
	checkWay(t, "what is off the path is not known", l, a, impl.Route{Path: []string{"a", "c"}, Known: namely(answer("a", integer(1)), answer("c", integer(3))), Done: true})
	a = withPut(a, "a", integer(0))
	checkWay(t, "what is on it is", l, a, impl.Route{Path: []string{"a", "b", "x"}, Known: namely(answer("a", integer(0)), answer("b", integer(2)), answer("k", integer(1))), Current: "x"})
	a = withPut(a, "x", dont())
	checkWay(t, "and what is computed", l, a, impl.Route{Path: []string{"a", "b", "x", "y"}, Known: namely(answer("a", integer(0)), answer("b", integer(2)), answer("k", integer(1)), answer("x", dont())), Current: "y"})
}

func TestPromise11Nested(t *testing.T) {
	for deep := range 7 {
		for bits := range 1 << deep {
			holds := func(at int) node {
				if bits>>at&1 == 1 {
					return always()
				}
				return never()
			}
			// In the one, each block stands ahead of an else, which is asked behind it; in the other, each behind it.
			var first, behind, second, ends []impl.Item
			var a []impl.Answer
			for at := range deep {
				in, out := fmt.Sprintf("in%d", at), fmt.Sprintf("out%d", at)
				first = append(first, when(holds(at)), askInt(in))
				behind = append([]impl.Item{end(), askInt(out)}, behind...)
				second = append(second, when(holds(at)), askInt(in), otherwise())
				ends = append(ends, end())
				a = withPut(withPut(a, in, integer(1)), out, integer(2))
			}
			yes, no := impl.Route{Done: true}, impl.Route{Done: true}
			so := 0
			for so < deep && bits>>so&1 == 1 {
				yes.Path = append(yes.Path, fmt.Sprintf("in%d", so))
				so++
			}
			for at := min(so, deep-1); at >= 0; at-- {
				yes.Path = append(yes.Path, fmt.Sprintf("out%d", at))
			}
			for at := range deep {
				if bits>>at&1 == 1 {
					no.Path = append(no.Path, fmt.Sprintf("in%d", at))
					break
				}
			}
			for _, r := range []*impl.Route{&yes, &no} {
				for _, name := range r.Path {
					r.Known = withPut(r.Known, name, answerIn(a, name))
				}
			}
			checkWay(t, fmt.Sprintf("%d deep, %b", deep, bits), append(first, behind...), a, yes)
			checkWay(t, fmt.Sprintf("%d deep in else, %b", deep, bits), append(second, ends...), a, no)
		}
	}
}

func TestPromise11AllBlocks(t *testing.T) {
	all := allBlocks()
	for _, w := range all {
		sameRoute(t, "blocks", impl.RouteOf(w.l, w.a), wayOf(w.l, w.a))
	}
	same(t, fmt.Sprintf("many are right: %d", len(all)), len(all) > 1500, true)
}

func TestPromise11Check(t *testing.T) {
	for i, c := range conditions() {
		for _, hard := range []bool{false, true} {
			f := check("it", c.n, "Sure?")
			f.Hard = hard
			what := fmt.Sprintf("condition %d, hard: %v", i, hard)
			want := aheadRoute(c.a)
			want.Done = true
			if c.tells == isNot {
				want.Broken = []string{"it"}
			}
			checkWay(t, what, append(fieldsAhead(), f), c.a, want)
			checkWay(t, what+", in a block", append(fieldsAhead(), when(always()), f, end()), c.a, want)
			checkWay(t, what+", in an else", append(fieldsAhead(), when(never()), otherwise(), f, end()), c.a, want)
			// An answer of its name is one of no field.
			checkWay(t, what+", answered", append(fieldsAhead(), f), withPut(c.a, "it", integer(1)), want)
			want.Broken = nil
			checkWay(t, what+", passed by", append(fieldsAhead(), when(never()), f, end()), c.a, want)
			checkWay(t, what+", passed by in an else", append(fieldsAhead(), when(always()), otherwise(), f, end()), c.a, want)
			want.Path, want.Current, want.Done = append(want.Path, "x"), "x", false
			checkWay(t, what+", behind the Current one", append(fieldsAhead(), askInt("x"), f), c.a, want)
		}
	}
}

func TestPromise11BrokenInOrder(t *testing.T) {
	l := []impl.Item{
		check("z", never(), "?"), must("y", never(), "?"), check("x", always(), "?"), askInt("a"), must("w", never(), "?"), when(never()), must("v", never(), "?"), otherwise(), check("u", never(), "?"), end(),
		askInt("b"), check("a1", never(), "?"),
	}
	a := namely(answer("a", integer(1)))
	want := impl.Route{Path: []string{"a", "b"}, Known: a, Broken: []string{"z", "y", "w", "u"}, Current: "b"}
	checkWay(t, "in the order of the way", l, a, want)
	a = namely(answer("a", integer(1)), answer("b", dont()))
	checkWay(t, "and at the end", l, a, impl.Route{Path: []string{"a", "b"}, Known: a, Broken: []string{"z", "y", "w", "u", "a1"}, Done: true})
}

func TestPromise11Compute(t *testing.T) {
	thousand := two(impl.ExTimes, num(1000), num(mostNum))
	bottom := two(impl.ExTimes, num(-1000), num(mostNum))
	for i, c := range []struct {
		n     node
		known bool
		want  int64
	}{
		{num(0), true, 0}, {num(-7), true, -7}, {num(mostNum), true, mostNum}, {field("i"), true, 3}, {field("c"), true, 2}, {two(impl.ExPlus, field("k"), field("i")), true, 4},
		{thousand, true, mostInt}, {bottom, true, -mostInt}, {two(impl.ExMinus, thousand, num(1)), true, mostInt - 1}, {two(impl.ExPlus, bottom, num(1)), true, 1 - mostInt},
		{two(impl.ExPlus, thousand, num(1)), false, 0}, {two(impl.ExMinus, bottom, num(1)), false, 0}, {two(impl.ExTimes, thousand, num(mostNum)), false, 0}, {two(impl.ExTimes, bottom, num(mostNum)), false, 0},
		{over(), false, 0}, {two(impl.ExTimes, num(0), over()), false, 0}, {field("d"), false, 0}, {two(impl.ExPlus, field("d"), num(1)), false, 0}, {two(impl.ExPlus, over(), field("d")), false, 0}, {field("off"), false, 0},
	} {
		l := append(fieldsAhead(), askInt("d"), when(never()), compute("off", num(1)), end(), compute("it", c.n), when(known("it")), askInt("yes"), otherwise(), askInt("no"), end(), check("nought", two(impl.ExSame, field("it"), num(0)), "?"))
		ahead := withPut(answersAhead(), "d", dont())
		a := withPut(withPut(ahead, "yes", integer(1)), "no", integer(2))
		want := aheadRoute(ahead)
		want.Done = true
		want.Path = append(want.Path, "d", "no")
		if c.known {
			want.Known = withPut(withPut(want.Known, "it", integer(c.want)), "yes", integer(1))
			want.Path[5] = "yes"
			if c.want != 0 {
				want.Broken = []string{"nought"}
			}
		} else {
			want.Known = withPut(want.Known, "no", integer(2))
		}
		what := fmt.Sprintf("compute %d", i)
		checkWay(t, what, l, a, want)
		for _, v := range []impl.Value{integer(0), integer(77), dont(), words("x"), choices(1)} {
			checkWay(t, what+", and an answer of its own", l, withPut(a, "it", v), want)
			checkWay(t, what+", and an answer of what is off", l, withPut(withPut(a, "it", v), "off", v), want)
		}
	}
}

func TestPromise11ComputeBehind(t *testing.T) {
	l := []impl.Item{compute("a", num(1)), askInt("b"), compute("c", field("b"))}
	checkWay(t, "behind the Current one", l, nil, impl.Route{Path: []string{"b"}, Known: namely(answer("a", integer(1))), Current: "b"})
	a := namely(answer("b", integer(5)))
	checkWay(t, "behind one that is known", l, a, impl.Route{Path: []string{"b"}, Known: namely(answer("a", integer(1)), answer("b", integer(5)), answer("c", integer(5))), Done: true})
	// Computed of what is computed, up to 24 of them.
	long := []impl.Item{compute(nameAt(0), num(mostNum))}
	known := namely(answer(nameAt(0), integer(mostNum)))
	for at := 1; at < mostItems; at++ {
		long = append(long, compute(nameAt(at), two(impl.ExMinus, field(nameAt(at-1)), num(1))))
		known = append(known, answer(nameAt(at), integer(mostNum-int64(at))))
	}
	checkWay(t, "one of the other", long, nil, impl.Route{Known: known, Done: true})
}

func TestPromise11Random(t *testing.T) {
	done, broken, far := 0, 0, 0
	for _, w := range slices.Concat(handWays(), randomWays(111, 2500)) {
		want := wayOf(w.l, w.a)
		checkWay(t, shown(w.l), w.l, w.a, want)
		if want.Done {
			done++
		}
		if len(want.Broken) > 0 {
			broken++
		}
		if len(want.Path) > 4 {
			far++
		}
	}
	same(t, fmt.Sprintf("many of all: %d, %d, %d", done, broken, far), done > 500 && broken > 300 && far > 300, true)
}

// TestPromise11OffPath: an answer of a name that is not on the path, put or dropped, changes nothing.
func TestPromise11OffPath(t *testing.T) {
	values := []impl.Value{integer(1), integer(-3), choice(1), choices(), choices(1), words("a"), dont(), refuse()}
	count := 0
	for _, w := range slices.Concat(handWays(), randomWays(112, 110)) {
		want := impl.RouteOf(w.l, w.a)
		all := []string{"a0", "nobody", "zz"}
		for _, f := range w.l {
			if f.Name != "" {
				all = append(all, f.Name)
			}
		}
		for i, name := range all {
			if slices.Contains(want.Path, name) {
				continue
			}
			less := slices.DeleteFunc(slices.Clone(w.a), func(a impl.Answer) bool { return a.Name == name })
			checkWay(t, name+" is dropped", w.l, less, want)
			for j := range 3 {
				more := withPut(less, name, values[(i+3*j)%len(values)])
				if len(more) <= mostAnswers {
					checkWay(t, name+" is put", w.l, more, want)
					count++
				}
			}
		}
		only := slices.DeleteFunc(slices.Clone(w.a), func(a impl.Answer) bool { return !slices.Contains(want.Path, a.Name) })
		checkWay(t, "only what is on the path", w.l, only, want)
	}
	same(t, fmt.Sprintf("many are off: %d", count), count > 2000, true)
}

func TestPromise11OnPath(t *testing.T) {
	desk := deskItems()
	a := namely(answer("name", words("Ann")), answer("age", integer(10)), answer("school", integer(5)), answer("work", choice(1)))
	for name, want := range map[string]bool{
		"name": true, "age": true, "school": true, "likes": true, "work": false, "young": false, "left": false, "sane": false, "": false,
		"nam": false, "names": false, "Name": false, "name ": false, "name age": false, "zzz": false, strings.Repeat("name", 5): false, tooLong(): false, tooLong()[1:]: false,
	} {
		same(t, shown(name), impl.OnPath(desk, a, name), want)
	}
	// A name of 20 bytes is one like others; one that is longer is none.
	long := strings.Repeat("n", 20)
	l := []impl.Item{askInt(long)}
	same(t, "20 bytes", impl.OnPath(l, nil, long), true)
	same(t, "21 bytes", impl.OnPath(l, nil, long+"n"), false)
	same(t, "19 bytes", impl.OnPath(l, nil, long[1:]), false)
	for _, w := range randomWays(113, 200) {
		path := wayOf(w.l, w.a).Path
		for _, name := range append(slices.Clone(notNames), "f0", "f1", "f7", "f23", "f24", "z1", tooLong()) {
			same(t, shown(name), impl.OnPath(w.l, w.a, name), slices.Contains(path, name))
		}
	}
}

func TestPromise11Count(t *testing.T) {
	l := []impl.Item{compute("k", num(1)), askInt("a"), compute("m", num(2)), askInt("b"), askInt("c"), compute("n", num(3))}
	for _, c := range []struct {
		what string
		a    []impl.Answer
		want int64
	}{
		{"at the first", nil, 0}, {"at the first, others told", namely(answer("b", integer(1)), answer("c", integer(1)), answer("k", integer(1))), 0}, {"between", namely(answer("a", integer(1))), 1}, {"between, not told", namely(answer("a", dont())), 1},
		{"between, one does not fit", namely(answer("a", integer(1)), answer("b", integer(6)), answer("c", integer(1))), 1}, {"near the end", namely(answer("a", integer(1)), answer("b", refuse())), 2},
		{"done", namely(answer("a", integer(1)), answer("b", integer(2)), answer("c", integer(3))), 3}, {"done, not told", namely(answer("a", dont()), answer("b", refuse()), answer("c", dont())), 3}, {"done, and more", namely(answer("a", dont()), answer("b", refuse()), answer("c", dont()), answer("k", integer(1)), answer("z", integer(1))), 3},
	} {
		same(t, c.what, impl.CountOf(l, c.a), c.want)
	}
	same(t, "none is asked", impl.CountOf([]impl.Item{compute("k", num(1)), check("x", never(), "?")}, oneOfEach()), int64(0))
	same(t, "24 are", impl.CountOf(manyItems(24), namely(answer(nameAt(0), dont()))), int64(1))
}

func TestPromise11HardBroken(t *testing.T) {
	hard, soft := must("hard", never(), "?"), check("soft", never(), "?")
	for i, c := range []struct {
		l    []impl.Item
		want bool
	}{
		{nil, false}, {[]impl.Item{soft}, false}, {[]impl.Item{hard}, true}, {[]impl.Item{soft, hard}, true}, {[]impl.Item{hard, soft}, true}, {[]impl.Item{must("hard", always(), "?")}, false},
		{[]impl.Item{must("hard", always(), "?"), soft}, false}, {[]impl.Item{soft, must("hard", always(), "?")}, false}, {[]impl.Item{must("other", always(), "?"), hard}, true}, {[]impl.Item{check("other", always(), "?"), hard}, true},
		{[]impl.Item{askInt("a"), hard}, false}, {[]impl.Item{soft, askInt("a"), hard}, false}, {[]impl.Item{hard, askInt("a")}, true}, {[]impl.Item{when(never()), hard, end()}, false}, {[]impl.Item{when(never()), otherwise(), hard, end()}, true}, {[]impl.Item{when(always()), otherwise(), hard, end(), soft}, false},
		{[]impl.Item{must("hard", two(impl.ExSame, over(), num(1)), "?"), soft}, false},
	} {
		same(t, fmt.Sprintf("checks %d", i), impl.HardBroken(c.l, nil), c.want)
	}
}
