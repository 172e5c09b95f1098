package tests

import (
	"fmt"
	"slices"
	"strings"
	"testing"

	"loop.example/g00561/impl"
)

func TestPromise17New(t *testing.T) {
	for _, c := range []struct {
		what string
		l    []impl.Item
		at   string
	}{
		{"none", nil, ""}, {"an empty list", []impl.Item{}, ""}, {"the desk", deskItems(), "name"}, {"one", []impl.Item{askInt("a")}, "a"}, {"24", manyItems(24), "n01"},
		{"a check first", []impl.Item{check("c", always(), "?"), askInt("a")}, "a"}, {"a broken check first", []impl.Item{must("c", never(), "?"), askInt("a")}, "a"}, {"a compute first", []impl.Item{compute("k", num(1)), askInt("a")}, "a"},
		{"an if first, which is so", []impl.Item{when(always()), askInt("a"), otherwise(), askInt("b"), end()}, "a"}, {"an if first, which is not", []impl.Item{when(never()), askInt("a"), otherwise(), askInt("b"), end()}, "b"}, {"an if first, by it", []impl.Item{when(never()), askInt("a"), end(), askInt("b")}, "b"},
		{"an empty if first", []impl.Item{when(always()), end(), askInt("a")}, "a"}, {"by what is computed", []impl.Item{compute("k", num(1)), when(below(field("k"), num(1))), askInt("a"), end(), askInt("b")}, "b"},
		{"an if, and no more", []impl.Item{when(never()), askInt("a"), end()}, ""}, {"an if and its else", []impl.Item{when(always()), otherwise(), askInt("a"), end()}, ""}, {"a check alone", []impl.Item{must("c", never(), "?")}, ""}, {"a compute alone", []impl.Item{compute("k", num(1))}, ""}, {"none is asked", brokenForm()[:9], ""},
	} {
		got := impl.SessionNew(c.l)
		checkOut(t, c.what, got, impl.Session{Items: c.l, At: c.at})
	}
	for _, l := range append(rightForms(), randomForms(190, 300)...) {
		checkOut(t, shown(l), impl.SessionNew(l), impl.Session{Items: l, At: wayOf(l, nil).Current})
	}
}

func TestPromise17NewRefused(t *testing.T) {
	for _, l := range wrongForms() {
		checkNoOut(t, shown(l), impl.SessionNew(l), impl.ErrForm)
	}
	for _, l := range longForms() {
		checkNoOut(t, shown(l), impl.SessionNew(l), impl.ErrSize)
	}
	for count, code := range map[int]int64{24: impl.OK, 25: impl.ErrForm, 399: impl.ErrForm, 400: impl.ErrForm, 401: impl.ErrSize, 402: impl.ErrSize, 5000: impl.ErrSize} {
		same(t, fmt.Sprintf("%d items", count), impl.SessionNew(manyItems(count)).Code, code)
	}
}

// checkWaived takes a session of which that name may be waived.
func checkWaived(t *testing.T, s impl.Session, name string) impl.Session {
	t.Helper()
	what := "waive " + name + " besides " + strings.Join(s.Waived, " ")
	got := impl.Waive(s, name)
	checkOut(t, what, got, withWaived(s, slices.Sorted(slices.Values(append(slices.Clone(s.Waived), name)))...))
	checkNoOut(t, what+", twice", impl.Waive(got.Session, name), impl.ErrThere)
	return got.Session
}

func TestPromise17Waive(t *testing.T) {
	grown, old := sessionOf(deskItems(), "work", deskGrown()...), sessionOf(deskItems(), "work", deskOld()...)
	atLikes := sessionOf(deskItems(), "likes", answer("name", words("Ann")), answer("age", integer(100)), answer("work", choice(1)))
	for _, s := range []impl.Session{old, withAt(old, ""), withAt(old, "name"), atLikes} {
		checkWaived(t, s, "young")
	}
	for _, name := range []string{"sane", "work", "name", "age", "school", "left", "zzz", "", "youn", "youngs", "Young", "young ", tooLong()[1:]} {
		checkNoOut(t, "not to be waived: "+shown(name), impl.Waive(old, name), impl.ErrNone)
		checkNoOut(t, "not to be waived, besides: "+shown(name), impl.Waive(withWaived(old, "young"), name), impl.ErrNone)
	}
	checkNoOut(t, "not broken", impl.Waive(grown, "young"), impl.ErrNone)
	checkNoOut(t, "not broken, and hard", impl.Waive(grown, "sane"), impl.ErrNone)
	// What is waived, and not broken any more, is not among what is Broken: that is named first.
	checkNoOut(t, "waived, and not broken", impl.Waive(withWaived(grown, "young"), "young"), impl.ErrNone)
	checkNoOut(t, "waived, and off the Path", impl.Waive(withWaived(sessionOf(deskItems(), "", deskYoung()...), "young"), "young"), impl.ErrNone)
	checkNoOut(t, "behind the Current one", impl.Waive(sessionOf(deskItems(), "work", answer("name", words("Ann")), answer("age", integer(100))), "young"), impl.ErrNone)
	checkNoOut(t, "dark, not broken", impl.Waive(sessionOf([]impl.Item{askInt("a"), check("young", below(field("a"), num(0)), "?")}, "", answer("a", dont())), "young"), impl.ErrNone)
	for _, s := range []impl.Session{old, withWaived(old, "young"), grown, {}} {
		checkNoOut(t, "too long", impl.Waive(s, tooLong()), impl.ErrSize)
		checkNoOut(t, "much too long", impl.Waive(s, strings.Repeat("young", impl.MaxBytes)), impl.ErrSize)
	}
}

func TestPromise17WaiveRising(t *testing.T) {
	for _, at := range []string{"first", "last", ""} {
		a := []impl.Answer{answer("first", integer(1)), answer("last", refuse())}
		if at != "" {
			a = a[:1]
		}
		for _, order := range [][]string{{"c", "m", "x"}, {"c", "x", "m"}, {"m", "c", "x"}, {"m", "x", "c"}, {"x", "c", "m"}, {"x", "m", "c"}} {
			s := sessionOf(brokenForm(), at, a...)
			for _, name := range order {
				s = checkWaived(t, s, name)
			}
			sameNames(t, strings.Join(order, " "), s.Waived, []string{"c", "m", "x"})
			sameNames(t, "the hard ones are left", impl.Pending(s), []string{"hard", "also"})
			for _, name := range []string{"hard", "also", "so", "off", "first", "k"} {
				checkNoOut(t, "not to be waived: "+name, impl.Waive(s, name), impl.ErrNone)
			}
		}
	}
	// Some of 24, in front, between and behind; such as are waived and not broken stand beside them.
	var l []impl.Item
	for at := range mostItems {
		n := never()
		if at%5 == 2 {
			n = always()
		}
		l = append(l, check(nameAt(at), n, "?"))
	}
	s := withWaived(sessionOf(l, ""), nameAt(2), nameAt(17))
	for at := range mostItems {
		turn := at * 7 % mostItems
		if turn%5 == 2 {
			checkNoOut(t, "not broken", impl.Waive(s, nameAt(turn)), impl.ErrNone)
			continue
		}
		s = checkWaived(t, s, nameAt(turn))
	}
	same(t, "how many", len(s.Waived), 21)
	checkOut(t, "complete", impl.Complete(s), s)
}

func TestPromise17Pending(t *testing.T) {
	a := []impl.Answer{answer("first", integer(1)), answer("last", refuse())}
	for _, s := range []impl.Session{sessionOf(brokenForm(), "first"), sessionOf(brokenForm(), "first", a...), sessionOf(brokenForm(), "", a...)} {
		for _, c := range []struct{ waived, want []string }{
			{nil, []string{"m", "hard", "c", "also", "x"}}, {[]string{"c"}, []string{"m", "hard", "also", "x"}}, {[]string{"c", "m"}, []string{"hard", "also", "x"}}, {[]string{"m", "x"}, []string{"hard", "c", "also"}}, {[]string{"c", "m", "x"}, []string{"hard", "also"}},
			{[]string{"off"}, []string{"m", "hard", "c", "also", "x"}}, {[]string{"so"}, []string{"m", "hard", "c", "also", "x"}}, {[]string{"c", "m", "off", "so", "x"}, []string{"hard", "also"}},
		} {
			sameNames(t, "waived: "+strings.Join(c.waived, " "), impl.Pending(withWaived(s, c.waived...)), c.want)
		}
	}
	sameNames(t, "an empty form", impl.Pending(impl.Session{}), nil)
	sameNames(t, "nothing yet", impl.Pending(sessionOf(deskItems(), "name")), nil)
	sameNames(t, "nothing is broken", impl.Pending(sessionOf(deskItems(), "", deskGrown()...)), nil)
	sameNames(t, "both", impl.Pending(sessionOf(deskItems(), "", deskOld()...)), []string{"young", "sane"})
	sameNames(t, "of a session that is not right", impl.Pending(withAt(sessionOf(deskItems(), "", deskOld()...), "school")), nil)
}

func TestPromise17Complete(t *testing.T) {
	soft, hard, a := check("soft", never(), "?"), must("hard", never(), "?"), askInt("a")
	told := answer("a", dont())
	for _, c := range []struct {
		what string
		s    impl.Session
		code int64
	}{
		{"an empty form", impl.Session{}, impl.OK}, {"nothing yet", sessionOf(deskItems(), "name"), impl.ErrState}, {"one lacks", sessionOf(deskItems(), "name", deskGrown()[:2]...), impl.ErrState},
		{"done", sessionOf(deskItems(), "", deskGrown()...), impl.OK}, {"done, and at another one", sessionOf(deskItems(), "age", deskGrown()...), impl.OK}, {"done, not of age", sessionOf(deskItems(), "", deskYoung()...), impl.OK}, {"done, off the Path told", sessionOf(deskItems(), "", withPut(deskYoung(), "work", choice(1))...), impl.OK},
		{"done, young is broken", sessionOf(deskItems(), "", withPut(deskGrown(), "age", integer(118))...), impl.ErrState}, {"done, young is waived", withWaived(sessionOf(deskItems(), "", withPut(deskGrown(), "age", integer(118))...), "young"), impl.OK},
		{"done, both are broken", sessionOf(deskItems(), "", deskOld()...), impl.ErrState}, {"done, one of both is waived", withWaived(sessionOf(deskItems(), "", deskOld()...), "young"), impl.ErrState}, {"done, waived, not broken", withWaived(sessionOf(deskItems(), "", deskGrown()...), "young"), impl.OK},
		{"soft", sessionOf([]impl.Item{soft}, ""), impl.ErrState}, {"soft, waived", withWaived(sessionOf([]impl.Item{soft}, ""), "soft"), impl.OK}, {"hard", sessionOf([]impl.Item{hard}, ""), impl.ErrState}, {"hard, soft waived", withWaived(sessionOf([]impl.Item{hard, soft}, ""), "soft"), impl.ErrState},
		{"waived, and not done", withWaived(sessionOf([]impl.Item{soft, a}, "a"), "soft"), impl.ErrState}, {"waived, and done", withWaived(sessionOf([]impl.Item{soft, a}, "a", told), "soft"), impl.OK}, {"neither", sessionOf([]impl.Item{a, soft}, "a"), impl.ErrState}, {"passed by", sessionOf([]impl.Item{a, when(never()), hard, end()}, "", told), impl.OK},
		{"dark is not broken", sessionOf([]impl.Item{a, must("hard", below(field("a"), num(0)), "?")}, "", told), impl.OK}, {"wrong is not broken", sessionOf([]impl.Item{must("hard", two(impl.ExSame, over(), num(1)), "?")}, ""), impl.OK},
	} {
		checkSession(t, c.what, c.s, true)
		got := impl.Complete(c.s)
		if c.code == impl.OK {
			checkOut(t, c.what, got, c.s)
		} else {
			checkNoOut(t, c.what, got, c.code)
		}
	}
}

func TestPromise17Drawn(t *testing.T) {
	waived, complete, hard := 0, 0, 0
	for _, s := range append(drawnSessions(191, 120), handSessions()...) {
		r := wayOf(s.Items, s.Answers)
		pending := pendingOf(s, r)
		sameNames(t, shown(s)+": Pending", impl.Pending(s), pending)
		same(t, shown(s)+": complete", checkAct(t, s, actComplete()).Code == impl.OK, r.Done && len(pending) == 0)
		for _, f := range s.Items {
			if hasName(f.Kind) && checkAct(t, s, actWaive(f.Name)).Code == impl.OK {
				same(t, f.Name+" is hard", f.Hard, false)
				waived++
			}
		}
		// Whoever waives all that is pending is complete, if the way is done and nothing hard is broken.
		all := s
		for _, name := range pending {
			if out := impl.Waive(all, name); out.Code == impl.OK {
				all = out.Session
			}
		}
		same(t, "all waived: complete", impl.Complete(all).Code == impl.OK, r.Done && !hardIn(s.Items, r.Broken))
		if impl.Complete(all).Code == impl.OK {
			complete++
		} else if hardIn(s.Items, impl.Pending(all)) {
			hard++
		}
	}
	same(t, fmt.Sprintf("many of all: %d, %d, %d", waived, complete, hard), waived > 150 && complete > 500 && hard > 150, true)
}
