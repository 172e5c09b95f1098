package tests

import (
	"fmt"
	"slices"
	"strings"
	"testing"

	"loop.example/g00561/impl"
)

// checkSaid holds also what the promise says by itself: that one answer is another one, and no other is.
func checkSaid(t *testing.T, s impl.Session, v impl.Value, at string) impl.Session {
	t.Helper()
	what := fmt.Sprintf("say %s at %s", shown(v), s.At)
	got := impl.Say(s, v)
	checkOut(t, what, got, withAt(withPutIn(s, s.At, v), at))
	sameValue(t, what+": its answer", impl.AnswerOf(got.Session.Answers, s.At), v)
	for _, f := range s.Items {
		if f.Name != s.At {
			sameValue(t, what+": the answer of "+f.Name, impl.AnswerOf(got.Session.Answers, f.Name), answerIn(s.Answers, f.Name))
		}
	}
	return got.Session
}

func TestPromise15Desk(t *testing.T) {
	s := impl.SessionNew(deskItems()).Session
	s = checkSaid(t, s, words("Ann"), "age")
	s = checkSaid(t, s, integer(30), "work")
	s = checkSaid(t, s, choice(2), "likes")
	s = checkSaid(t, s, choices(1, 4), "")
	sameAnswers(t, "of age", s.Answers, deskGrown())
	checkNoOut(t, "at the end", impl.Say(s, words("Bob")), impl.ErrState)
	// An answer that is ahead is another one: what is behind it stays, on the new Path or off it.
	s = checkSaid(t, withAt(s, "name"), words("Bob"), "age")
	s = checkSaid(t, s, integer(10), "school")
	s = checkSaid(t, s, integer(5), "likes")
	sameValue(t, "work is off the Path", impl.AnswerOf(s.Answers, "work"), choice(2))
	s = checkSaid(t, s, choices(), "")
	s = checkSaid(t, withAt(s, "age"), integer(40), "work")
	sameValue(t, "work is on it again", impl.AnswerOf(s.Answers, "work"), choice(2))
	sameValue(t, "school is off it", impl.AnswerOf(s.Answers, "school"), integer(5))
	checkSaid(t, s, refuse(), "likes")
	checkSaid(t, withAt(s, "age"), dont(), "school")
}

func TestPromise15NextByNewPath(t *testing.T) {
	grown := sessionOf(deskItems(), "age", deskGrown()...)
	checkSaid(t, grown, integer(18), "work")
	checkSaid(t, grown, integer(17), "school")
	checkSaid(t, sessionOf(deskItems(), "age", deskYoung()...), integer(18), "work")
	checkSaid(t, sessionOf(deskItems(), "age", deskYoung()...), refuse(), "school")
	a, b, c := askInt("a"), askInt("b"), askInt("c")
	positive := when(below(num(0), field("a")))
	one, all := answer("a", integer(1)), []impl.Answer{answer("a", integer(1)), answer("b", integer(1)), answer("c", integer(1))}
	for _, s := range []struct {
		what    string
		l       []impl.Item
		a       []impl.Answer
		yes, no string
	}{
		{"into a block, or by it", []impl.Item{a, positive, b, end(), c}, all, "b", "c"},
		{"into a block, or to the end", []impl.Item{a, positive, b, end()}, all[:2], "b", ""},
		{"into its else, or to the end", []impl.Item{a, positive, otherwise(), b, end()}, all[:2], "", "b"},
		{"into one of two", []impl.Item{a, positive, b, otherwise(), c, end()}, all, "b", "c"},
		{"into one of two, without answers of these", []impl.Item{a, positive, b, otherwise(), c, end()}, []impl.Answer{one}, "b", "c"},
		{"into one of two, without any answer", []impl.Item{a, positive, b, otherwise(), c, end()}, nil, "b", "c"},
		{"by what is computed", []impl.Item{a, compute("k", two(impl.ExPlus, field("a"), num(1))), when(below(num(1), field("k"))), b, otherwise(), c, end()}, all, "b", "c"},
		{"by no block", []impl.Item{a, check("soft", below(num(0), field("a")), "?"), b}, all[:2], "b", "b"},
	} {
		from := sessionOf(s.l, "a", s.a...)
		checkSession(t, s.what, from, true)
		checkSaid(t, from, integer(2), s.yes)
		checkSaid(t, from, integer(0), s.no)
		checkSaid(t, from, dont(), s.no)
	}
}

func TestPromise15Types(t *testing.T) {
	for _, f := range allAsks() {
		first, last := answer("first", integer(0)), answer("last", integer(0))
		l := []impl.Item{askInt("first"), f, askInt("last")}
		for _, s := range []impl.Session{sessionOf(l, "a", first), sessionOf(l, "a", first, last), sessionOf(l, "a", first, last, answer("a", dont())), sessionOf(l, "a", first, answer("a", refuse()))} {
			for _, v := range allValues() {
				if fitting(f, v) {
					checkSaid(t, s, v, "last")
				} else {
					checkNoOut(t, shown(v)+" in "+shown(f), impl.Say(s, v), impl.ErrType)
				}
			}
			for _, v := range []impl.Value{nothing(), {Codes: []int64{}}} {
				checkNoOut(t, "nothing in "+shown(f), impl.Say(s, v), impl.ErrType)
			}
			checkSaid(t, s, dont(), "last")
			checkSaid(t, s, refuse(), "last")
		}
	}
	for _, kind := range allTypes {
		l := []impl.Item{askOf("a", kind)}
		for _, v := range append(wrongValues(), nothing()) {
			for _, s := range []impl.Session{sessionOf(l, "a"), sessionOf(l, "a", answer("a", dont()))} {
				checkNoOut(t, shown(v)+" of the type", impl.Say(s, v), impl.ErrType)
			}
			checkNoOut(t, shown(v)+" at the end", impl.Say(sessionOf(l, "", answer("a", dont())), v), impl.ErrState)
			checkNoOut(t, shown(v)+" where nothing is asked", impl.Say(impl.Session{}, v), impl.ErrState)
			checkNoOut(t, shown(v)+" where nothing is right", impl.Say(sessionOf(l, ""), v), impl.ErrForm)
		}
	}
}

func TestPromise15TypesByHand(t *testing.T) {
	old := sessionOf(deskItems(), "", deskGrown()...)
	for _, c := range []struct {
		at   string
		v    impl.Value
		code int64
	}{
		{"name", words(""), impl.OK}, {"name", words(strings.Repeat("n", 20)), impl.OK}, {"name", words(strings.Repeat("n", 21)), impl.ErrType}, {"name", integer(1), impl.ErrType}, {"name", words("a\n"), impl.ErrType}, {"name", words(tooLong()), impl.ErrType},
		{"age", integer(0), impl.OK}, {"age", integer(-1), impl.ErrType}, {"age", integer(120), impl.OK}, {"age", integer(121), impl.ErrType}, {"age", words("30"), impl.ErrType}, {"age", choice(3), impl.ErrType}, {"age", choices(3), impl.ErrType},
		{"work", choice(3), impl.OK}, {"work", choice(4), impl.ErrType}, {"work", choice(0), impl.ErrType}, {"work", integer(1), impl.ErrType}, {"work", choices(1), impl.ErrType},
		{"likes", choices(), impl.OK}, {"likes", choices(1, 2, 3, 4), impl.OK}, {"likes", choices(1, 5), impl.ErrType}, {"likes", choices(2, 1), impl.ErrType}, {"likes", choice(1), impl.ErrType}, {"likes", choices(make([]int64, impl.MaxList+1)...), impl.ErrType},
		{"name", nothing(), impl.ErrType}, {"age", nothing(), impl.ErrType}, {"age", impl.Value{Kind: impl.VaDont, N: 1}, impl.ErrType}, {"age", impl.Value{Kind: 7}, impl.ErrType}, {"", integer(1), impl.ErrState}, {"", nothing(), impl.ErrState}, {"", dont(), impl.ErrState},
		{"school", integer(1), impl.ErrForm}, {"school", nothing(), impl.ErrForm}, {"young", integer(1), impl.ErrForm},
	} {
		same(t, fmt.Sprintf("%s at %q", shown(c.v), c.at), impl.Say(withAt(old, c.at), c.v).Code, c.code)
	}
}

// TestPromise15Checks: what is said may break a check, and mend it; what is waived stays so.
func TestPromise15Checks(t *testing.T) {
	s := withWaived(sessionOf(deskItems(), "age", deskGrown()...), "young")
	s = checkSaid(t, s, integer(110), "work")
	sameNames(t, "young is waived", impl.Pending(s), nil)
	s = checkSaid(t, withAt(s, "age"), integer(120), "work")
	sameNames(t, "sane is not", impl.Pending(s), []string{"sane"})
	s = checkSaid(t, withAt(s, "age"), integer(30), "work")
	sameNames(t, "neither is broken", impl.Pending(s), nil)
	s = checkSaid(t, withAt(s, "age"), integer(10), "school")
	sameNames(t, "young is off the Path, and waived", s.Waived, []string{"young"})
}

func checkCleared(t *testing.T, s impl.Session) impl.Session {
	t.Helper()
	want := s
	want.Answers = slices.DeleteFunc(slices.Clone(s.Answers), func(a impl.Answer) bool { return a.Name == s.At })
	got := impl.Clear(s)
	checkOut(t, "clear at "+s.At, got, want)
	same(t, "one less", len(got.Session.Answers), len(s.Answers)-1)
	same(t, "it is the Current one", impl.RouteOf(got.Session.Items, got.Session.Answers).Current, s.At)
	checkNoOut(t, "clear once more", impl.Clear(got.Session), impl.ErrNone)
	return got.Session
}

func TestPromise15Clear(t *testing.T) {
	for _, a := range [][]impl.Answer{deskGrown(), deskYoung(), deskOld(), withPut(deskGrown(), "school", integer(1))} {
		s := withWaived(sessionOf(deskItems(), "", a...), "young")
		checkNoOut(t, "at the end", impl.Clear(s), impl.ErrState)
		for _, at := range wayOf(s.Items, s.Answers).Path {
			left := checkCleared(t, withAt(s, at))
			checkSaid(t, left, answerIn(a, at), append(wayOf(s.Items, s.Answers).Path, "")[slices.Index(wayOf(s.Items, s.Answers).Path, at)+1])
		}
	}
	checkNoOut(t, "at the Current one", impl.Clear(sessionOf(deskItems(), "name")), impl.ErrNone)
	checkNoOut(t, "at the Current one, others told", impl.Clear(sessionOf(deskItems(), "name", deskGrown()[0])), impl.ErrNone)
	checkNoOut(t, "at the Current one, off the Path told", impl.Clear(sessionOf(deskItems(), "work", answer("name", dont()), answer("age", integer(20)), answer("school", integer(3)))), impl.ErrNone)
	checkNoOut(t, "where nothing is asked", impl.Clear(impl.Session{}), impl.ErrState)
	// What goes may be all there is, or one of as many as may be.
	checkCleared(t, sessionOf([]impl.Item{askInt("a")}, "a", answer("a", dont())))
	var many []impl.Answer
	for _, f := range manyItems(mostItems) {
		many = append(many, answer(f.Name, dont()))
	}
	for at := range mostItems {
		checkCleared(t, sessionOf(manyItems(mostItems), nameAt(at), many...))
	}
}

func TestPromise15Drawn(t *testing.T) {
	said, other, cleared := 0, 0, 0
	for _, s := range append(drawnSessions(171, 120), handSessions()...) {
		if checkAct(t, s, actClear()).Code == impl.OK {
			cleared++
		}
		path := wayOf(s.Items, s.Answers).Path
		for _, a := range saidActs() {
			got := checkAct(t, s, a)
			if got.Code != impl.OK {
				continue
			}
			said++
			for _, b := range got.Session.Answers {
				if b.Name != s.At {
					sameValue(t, b.Name, b.Value, answerIn(s.Answers, b.Name))
				}
			}
			if after := wayOf(s.Items, got.Session.Answers).Path; len(s.Answers) == len(got.Session.Answers) && !slices.Equal(path, after) {
				other++
			}
		}
	}
	same(t, fmt.Sprintf("many of all: %d, %d, %d", said, other, cleared), said > 2000 && other > 50 && cleared > 500, true)
}
