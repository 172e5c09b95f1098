package tests

import (
	"slices"
	"strings"
	"testing"

	"loop.example/g00561/impl"
)

// routeApart is the Route in memory of its own.
func routeApart(r impl.Route) impl.Route {
	out := r
	out.Path, out.Broken = slices.Clone(r.Path), slices.Clone(r.Broken)
	out.Known = apart(r.Known)
	return out
}

func scribbledNames(names []string) {
	whole := names[:cap(names)]
	for i := range whole {
		whole[i] = "scribble"
	}
}

func textsOfRoute(r impl.Route) []string {
	out := slices.Concat(r.Path, r.Broken, []string{r.Current})
	for _, a := range r.Known {
		out = append(out, a.Name, a.Value.Text)
	}
	return out
}

func textsOfAnswers(l []impl.Answer) []string {
	return textsOfRoute(impl.Route{Known: l})
}

// memoryWays have texts of more than one byte, sets of codes, and checks that are broken.
func memoryWays() []answered {
	l := []impl.Item{
		ask("set1", impl.TySet, 1, 9, "Which?"), ask("set2", impl.TySet, 1, 9, "Which?"), check("soft", never(), "{text} has {set1}"), ask("text", impl.TyText, 0, 40, "What?"), must("hard", never(), "{set2}"), ask("last", impl.TySet, 1, 9, "No braces"),
	}
	codes := choices(1, 2, 3)
	a := namely(answer("set1", codes), answer("set2", codes), answer("text", words("some words")))
	return slices.Concat(handWays(), randomWays(114, 60), []answered{{l, a}, {l, withPut(a, "last", codes)}, {l, a[:1]}})
}

func TestWaysAreNotChanged(t *testing.T) {
	for _, w := range memoryWays() {
		l, a := itemsApart(w.l), apart(w.a)
		impl.RouteOf(l, a)
		impl.CountOf(l, a)
		impl.HardBroken(l, a)
		for _, name := range []string{"age", "young", "it", "soft", "f0", "", "zzz"} {
			impl.OnPath(l, a, name)
			impl.FillOf(l, a, name)
		}
		checkItemsApart(t, "the form", l, w.l)
		checkApart(t, "the answers", a, w.a)
	}
	for _, before := range wrongForms() {
		l, a := itemsApart(before), apart(oneOfEach())
		checkNoWay(t, "no form", l, a)
		checkItemsApart(t, "no form", l, before)
		checkApart(t, "the answers", a, oneOfEach())
	}
	for _, before := range wrongAnswers()[:40] {
		l, a := itemsApart(deskItems()), apart(before)
		checkNoWay(t, "no answers", l, a)
		checkItemsApart(t, "the form", l, deskItems())
		checkApart(t, "no answers", a, before)
	}
}

func TestWaysKeepNoMemory(t *testing.T) {
	for _, w := range memoryWays() {
		l, a := itemsApart(w.l), apart(w.a)
		handed := append(textsOf(l), textsOfAnswers(a)...)
		want := wayOf(w.l, w.a)
		for _, scribble := range []func(r impl.Route){
			func(r impl.Route) { scribbledNames(r.Path) }, func(r impl.Route) { scribbledNames(r.Broken) }, func(r impl.Route) { scribbled(r.Known) },
		} {
			r := impl.RouteOf(l, a)
			same(t, "the texts handed in", anyOverlap(textsOfRoute(r), handed), false)
			scribble(r)
			checkItemsApart(t, "the form", l, w.l)
			checkApart(t, "the answers", a, w.a)
			sameRoute(t, "once more", impl.RouteOf(l, a), want)
		}
		for _, f := range w.l {
			name := strings.Clone(f.Name)
			text := impl.FillOf(l, a, name)
			same(t, "fill: the texts handed in", anyOverlap([]string{text}, append(handed, name)), false)
		}
	}
}

// TestWaysListsAreApart: of one Route no list reaches into another one.
func TestWaysListsAreApart(t *testing.T) {
	for _, w := range memoryWays() {
		want := wayOf(w.l, w.a)
		r := impl.RouteOf(w.l, w.a)
		before := routeApart(r)
		scribbledNames(r.Path)
		r.Path = before.Path
		sameRoute(t, "without the Path", r, want)
		scribbledNames(r.Broken)
		r.Broken = before.Broken
		sameRoute(t, "without Broken", r, want)
		for i := range r.Known {
			mine := r.Known[i : i+1 : i+1]
			codes := mine[0].Value.Codes
			scribbled(mine)
			for j := range codes[:cap(codes)] {
				codes[:cap(codes)][j] = -9
			}
			sameAnswers(t, "the others", r.Known[i+1:], want.Known[i+1:])
		}
		r.Known = before.Known
		sameRoute(t, "without Known", r, want)
	}
}

// TestWaysOfOneList: two answers that were handed in with one list of codes in common are told apart from it, and from each other.
func TestWaysOfOneList(t *testing.T) {
	codes := []int64{1, 2, 3}
	l := []impl.Item{ask("first", impl.TySet, 1, 9, "?"), ask("second", impl.TySet, 1, 9, "?")}
	r := impl.RouteOf(l, []impl.Answer{answer("first", choices(codes...)), answer("second", choices(codes...))})
	r.Known[0].Value.Codes[0] = -9
	sameValue(t, "the other one", r.Known[1].Value, choices(1, 2, 3))
	same(t, "what was handed in", slices.Equal(codes, []int64{1, 2, 3}), true)
}
