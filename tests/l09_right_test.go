package tests

import (
	"fmt"
	"math/rand"
	"slices"
	"strings"
	"testing"

	"loop.example/g00561/impl"
)

func TestSessionRightHand(t *testing.T) {
	checkSession(t, "the zero one: an empty form is done", impl.Session{}, true)
	checkSession(t, "empty lists", impl.Session{Items: []impl.Item{}, Answers: []impl.Answer{}, Waived: []string{}}, true)
	for _, s := range handSessions() {
		checkSession(t, shown(s), s, true)
	}
}

func TestSessionRightForm(t *testing.T) {
	for _, l := range slices.Concat(wrongForms(), longForms()) {
		s := sessionOf(l, "")
		checkRefused(t, "no form: "+shown(l), s)
		for _, f := range l[:min(len(l), 30)] {
			same(t, "no form: "+shown(l), impl.SessionRight(withAt(s, f.Name)), false)
		}
	}
	whole := sessionOf(deskItems(), "", deskGrown()...)
	checkSession(t, "the desk", whole, true)
	for _, l := range [][]impl.Item{append(deskItems(), end()), append(deskItems(), impl.Item{}), append(deskItems(), askInt("name")), append(deskItems(), manyItems(14)...), deskItems()[:4], append([]impl.Item{compute("of", field("age"))}, deskItems()...)} {
		checkRefused(t, "no form any more", withItems(whole, l))
	}
	checkSession(t, "more items, as many as may be", withAt(withItems(whole, append(deskItems(), manyItems(13)...)), "n01"), true)
}

func TestSessionRightAnswers(t *testing.T) {
	forms := map[string][]impl.Item{"": nil, "name": deskItems(), "n01": manyItems(24), "a": {askOf("a", impl.TyInt), askOf("b", impl.TyInt), askOf("c", impl.TyInt)}}
	for _, a := range slices.Concat(wrongAnswers(), longAnswers()) {
		for at, l := range forms {
			same(t, "no answers: "+shown(a), impl.SessionRight(withAnswers(sessionOf(l, at), a...)), false)
		}
		checkRefused(t, "no answers: "+shown(a), withAnswers(sessionOf(forms["a"], "a"), a...))
	}
	one := integer(1)
	s := sessionOf(forms["a"], "a", answer("a", one), answer("b", one), answer("c", one))
	checkSession(t, "three of them", s, true)
	for _, a := range [][]impl.Answer{{answer("b", one), answer("a", one)}, {answer("a", one), answer("a", one)}, {answer("a", one), answer("c", one), answer("b", one)}, {answer("a", nothing())}, {answer("a", impl.Value{Kind: impl.VaInt, N: 1, Text: "x"})}} {
		checkRefused(t, shown(a), withAnswers(s, a...))
	}
}

func TestSessionRightAnswerOf(t *testing.T) {
	l := append(fieldsAhead(), check("soft", never(), "?"), must("hard", never(), "?"), askInt("last"))
	s := sessionOf(l, "i", answersAhead()...)
	checkSession(t, "fields that are asked", s, true)
	checkSession(t, "one that is off the path", withPutIn(sessionOf(l, "i"), "last", integer(1)), true)
	for _, name := range []string{"k", "soft", "hard", "zzz", "h", "laster", "j"} {
		for _, v := range []impl.Value{integer(1), dont(), refuse(), choice(1), choices(1), words("x")} {
			checkRefused(t, name+" is "+shown(v), withPutIn(s, name, v))
			same(t, "an empty form", impl.SessionRight(withPutIn(impl.Session{}, name, v)), false)
		}
	}
	for _, f := range allAsks() {
		s := sessionOf([]impl.Item{f, askInt("last")}, "a")
		for _, v := range allValues()[1:] {
			checkSession(t, shown(v)+" in "+shown(f), withPutIn(s, "a", v), fitting(f, v))
		}
	}
	desk := sessionOf(deskItems(), "name", deskYoung()...)
	for name, v := range map[string]impl.Value{"name": words(strings.Repeat("n", 21)), "age": integer(121), "school": integer(0), "likes": choices(1, 5), "work": choice(4)} {
		checkRefused(t, shown(v), withPutIn(desk, name, v))
		checkRefused(t, "of another type", withPutIn(desk, name, impl.Value{Kind: v.Kind%4 + 1}))
		checkSession(t, name+" is not told", withPutIn(desk, name, refuse()), true)
	}
}

func withPutIn(s impl.Session, name string, v impl.Value) impl.Session {
	s.Answers = withPut(s.Answers, name, v)
	return s
}

func TestSessionRightAt(t *testing.T) {
	desk := deskItems()
	for _, c := range []struct {
		what         string
		a            []impl.Answer
		right, wrong []string
	}{
		{"nothing yet", nil, []string{"name"}, []string{"", "age", "work", "likes"}},
		{"on the way", deskGrown()[:2], []string{"name"}, []string{"", "age", "work", "school", "likes"}},
		{"at work", namely(answer("name", words("")), answer("age", integer(18))), []string{"name", "age", "work"}, []string{"", "school", "likes", "young", "sane", "left"}},
		{"at school", namely(answer("name", words("")), answer("age", integer(17))), []string{"name", "age", "school"}, []string{"", "work", "likes"}},
		{"done", deskGrown(), []string{"", "name", "age", "work", "likes"}, []string{"school", "young", "sane", "left"}},
		{"done, not of age", deskYoung(), []string{"", "name", "age", "school", "likes"}, []string{"work", "young", "sane", "left"}},
		{"done, both broken", deskOld(), []string{"", "name", "age", "work", "likes"}, []string{"school", "young", "sane"}},
		{"done, but for one", withPut(deskYoung(), "age", integer(40)), []string{"name", "age", "work"}, []string{"", "likes", "school"}},
	} {
		s := sessionOf(desk, "", c.a...)
		for _, at := range c.right {
			checkSession(t, c.what+": at "+at, withAt(s, at), true)
		}
		for _, at := range append(c.wrong, "zzz", "nam", "names", "Name", "name ", "name age", " ", "\x00", strings.Repeat("name", 6), tooLong()) {
			checkSession(t, c.what+": at "+shown(at), withAt(s, at), false)
			checkRefused(t, c.what+": at "+shown(at), withAt(s, at))
		}
	}
	checkSession(t, "an empty form, at a name", impl.Session{At: "a"}, false)
	checkSession(t, "none is asked, at the end", sessionOf(brokenForm()[:9], ""), true)
	checkSession(t, "none is asked, at a check", sessionOf(brokenForm()[:9], "m"), false)
}

func TestSessionRightWaived(t *testing.T) {
	s := sessionOf(brokenForm(), "first")
	for _, names := range [][]string{nil, {}, {"c"}, {"m"}, {"x"}, {"so"}, {"off"}, {"c", "m"}, {"c", "x"}, {"m", "x"}, {"c", "m", "x"}, {"off", "so"}, {"c", "m", "off", "so", "x"}} {
		checkSession(t, "waived: "+strings.Join(names, " "), withWaived(s, names...), true)
	}
	for _, names := range [][]string{
		{"m", "c"}, {"c", "c"}, {"c", "m", "m"}, {"c", "x", "m"}, {"c", "m", "c"}, {"x", "so", "off", "m", "c"}, {"c", "m", "off", "so", "x", "x"},
		{"hard"}, {"also"}, {"also", "c"}, {"c", "hard", "m"}, {"c", "hard"}, {"first"}, {"c", "first"}, {"last"}, {"k"}, {"c", "k"}, {"zzz"}, {"x", "zzz"}, {"a"}, {"a", "c"}, {""}, {"", "c"}, {"c", ""}, {"C"}, {"c "}, {"m", "mm"}, {"c", tooLong()},
		slices.Repeat([]string{"c"}, impl.MaxList+1), make([]string, impl.MaxList+1),
	} {
		checkSession(t, "waived: "+shown(names), withWaived(s, names...), false)
		checkRefused(t, "waived: "+shown(names), withWaived(s, names...))
		same(t, "waived of an empty form", impl.SessionRight(impl.Session{Waived: names}), false)
	}
	// Of as many checks as there may be, all are waived but one that is not soft.
	var many []impl.Item
	var all []string
	for at := range mostItems {
		many, all = append(many, check(nameAt(at), never(), "?")), append(all, nameAt(at))
	}
	checkSession(t, "24 are waived", withWaived(sessionOf(many, ""), all...), true)
	for at := range mostItems {
		turned := slices.Clone(many)
		turned[at].Hard = true
		checkSession(t, "one of 24 is hard", withWaived(sessionOf(turned, ""), all...), false)
		checkSession(t, "and is not waived", withWaived(sessionOf(turned, ""), slices.Delete(slices.Clone(all), at, at+1)...), true)
	}
}

// turnedSession is one of which one thing may be another than it was.
func turnedSession(r *rand.Rand, s impl.Session) impl.Session {
	all := []string{"", "zzz", "f0", "f1", "f2"}
	for _, f := range s.Items {
		all = append(all, f.Name)
	}
	name := all[r.Intn(len(all))]
	switch r.Intn(6) {
	case 0:
		return withAt(s, name)
	case 1:
		return withWaived(s, append(slices.Clone(s.Waived), name)...)
	case 2:
		return withWaived(s, append([]string{name}, s.Waived...)...)
	case 3:
		return withPutIn(s, name, someOf(r.Intn(50)))
	case 4:
		s.Answers = slices.DeleteFunc(slices.Clone(s.Answers), func(a impl.Answer) bool { return a.Name == name })
		return s
	}
	return withItems(s, turnedForm(r, s.Items))
}

func TestSessionRightDrawn(t *testing.T) {
	r := rand.New(rand.NewSource(161))
	right, wrong := 0, 0
	for _, s := range append(drawnSessions(162, 150), handSessions()...) {
		checkSession(t, shown(s), s, true)
		if len(s.Items) == 0 {
			continue
		}
		for range 3 {
			turned := turnedSession(r, s)
			made := sessionMade(turned)
			same(t, shown(turned), impl.SessionRight(turned), made)
			if made {
				right++
			} else {
				wrong++
			}
		}
	}
	same(t, fmt.Sprintf("many of both: %d, %d", right, wrong), right > 1000 && wrong > 1000, true)
}
