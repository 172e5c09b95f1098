package tests

import (
	"fmt"
	"math/rand"
	"slices"
	"testing"

	"loop.example/g00561/impl"
)

// itemOf is the Item of that Name, whatever its Kind; the zero one where there is none.
func itemOf(l []impl.Item, name string) impl.Item {
	at := slices.IndexFunc(l, func(f impl.Item) bool { return hasName(f.Kind) && f.Name == name })
	if at < 0 {
		return impl.Item{}
	}
	return l[at]
}

func isSoft(f impl.Item) bool {
	return f.Kind == impl.ItCheck && !f.Hard
}

// stops are all the places at which one may be: the names on the Path, and the end behind them, if the way comes to it.
func stops(r impl.Route) []string {
	out := slices.Clone(r.Path)
	if r.Done {
		out = append(out, "")
	}
	return out
}

// sessionMade is the document's word on a session.
func sessionMade(s impl.Session) bool {
	if !formMade(s.Items) || !impl.AnswersRight(s.Answers) {
		return false
	}
	for _, a := range s.Answers {
		if f := itemOf(s.Items, a.Name); f.Kind != impl.ItAsk || !fitting(f, a.Value) {
			return false
		}
	}
	for i, name := range s.Waived {
		if !isSoft(itemOf(s.Items, name)) || i > 0 && s.Waived[i-1] >= name {
			return false
		}
	}
	return slices.Contains(stops(wayOf(s.Items, s.Answers)), s.At)
}

func sameSession(t *testing.T, what string, got, want impl.Session) {
	t.Helper()
	sameItems(t, what+": Items", got.Items, want.Items)
	sameAnswers(t, what+": Answers", got.Answers, want.Answers)
	same(t, what+": At", got.At, want.At)
	sameNames(t, what+": Waived", got.Waived, want.Waived)
}

func checkSession(t *testing.T, what string, s impl.Session, right bool) {
	t.Helper()
	same(t, what+": right", impl.SessionRight(s), right)
	same(t, what+": right by the document's word", sessionMade(s), right)
}

// checkOut is of an act whose code is OK; what it answers must be right, too.
func checkOut(t *testing.T, what string, got impl.SessionOut, want impl.Session) {
	t.Helper()
	same(t, what+": the code", got.Code, int64(impl.OK))
	sameSession(t, what, got.Session, want)
	checkSession(t, what, got.Session, true)
}

func checkNoOut(t *testing.T, what string, got impl.SessionOut, code int64) {
	t.Helper()
	same(t, what+": the code", got.Code, code)
	sameSession(t, what+": beside it", got.Session, impl.Session{})
}

// act is what may be done with a session: by the program, and by the document's word, which takes a right one and its way.
type act struct {
	what string
	do   func(s impl.Session) impl.SessionOut
	word func(s impl.Session, r impl.Route) (impl.Session, int64)
}

func actSay(v impl.Value) act {
	return act{
		"say " + shown(v),
		func(s impl.Session) impl.SessionOut { return impl.Say(s, v) },
		func(s impl.Session, r impl.Route) (impl.Session, int64) {
			switch {
			case s.At == "":
				return s, impl.ErrState
			case !fitting(itemOf(s.Items, s.At), v):
				return s, impl.ErrType
			}
			s.Answers = withPut(s.Answers, s.At, v)
			path := append(wayOf(s.Items, s.Answers).Path, "")
			s.At = path[slices.Index(path, s.At)+1]
			return s, impl.OK
		},
	}
}

func actClear() act {
	return act{"clear", impl.Clear, func(s impl.Session, r impl.Route) (impl.Session, int64) {
		left := slices.DeleteFunc(slices.Clone(s.Answers), func(a impl.Answer) bool { return a.Name == s.At })
		switch {
		case s.At == "":
			return s, impl.ErrState
		case len(left) == len(s.Answers):
			return s, impl.ErrNone
		}
		s.Answers = left
		return s, impl.OK
	}}
}

func actBack() act {
	return act{"back", impl.Back, func(s impl.Session, r impl.Route) (impl.Session, int64) {
		at := slices.Index(append(slices.Clone(r.Path), ""), s.At)
		if at == 0 {
			return s, impl.ErrRange
		}
		s.At = r.Path[at-1]
		return s, impl.OK
	}}
}

func actForward() act {
	return act{"forward", impl.Forward, func(s impl.Session, r impl.Route) (impl.Session, int64) {
		if s.At == "" || !r.Done && s.At == r.Path[len(r.Path)-1] {
			return s, impl.ErrState
		}
		s.At = append(slices.Clone(r.Path), "")[slices.Index(r.Path, s.At)+1]
		return s, impl.OK
	}}
}

func actGoto(name string) act {
	return act{
		"goto " + shown(name),
		func(s impl.Session) impl.SessionOut { return impl.Goto(s, name) },
		func(s impl.Session, r impl.Route) (impl.Session, int64) {
			switch {
			case len(name) > impl.MaxBytes:
				return s, impl.ErrSize
			case !slices.Contains(r.Path, name):
				return s, impl.ErrNone
			}
			s.At = name
			return s, impl.OK
		},
	}
}

func actWaive(name string) act {
	return act{
		"waive " + shown(name),
		func(s impl.Session) impl.SessionOut { return impl.Waive(s, name) },
		func(s impl.Session, r impl.Route) (impl.Session, int64) {
			switch {
			case len(name) > impl.MaxBytes:
				return s, impl.ErrSize
			case !slices.Contains(r.Broken, name), itemOf(s.Items, name).Hard:
				return s, impl.ErrNone
			case slices.Contains(s.Waived, name):
				return s, impl.ErrThere
			}
			s.Waived = slices.Sorted(slices.Values(append(slices.Clone(s.Waived), name)))
			return s, impl.OK
		},
	}
}

func actComplete() act {
	return act{"complete", impl.Complete, func(s impl.Session, r impl.Route) (impl.Session, int64) {
		if !r.Done || len(pendingOf(s, r)) > 0 {
			return s, impl.ErrState
		}
		return s, impl.OK
	}}
}

func pendingOf(s impl.Session, r impl.Route) []string {
	return slices.DeleteFunc(slices.Clone(r.Broken), func(name string) bool { return slices.Contains(s.Waived, name) })
}

// plainActs are those that take neither a name nor a value.
func plainActs() []act {
	return []act{actClear(), actBack(), actForward(), actComplete()}
}

// namedActs have each name of the form, on the Path or off it, and such as are none of its names.
func namedActs(l []impl.Item) []act {
	all := []string{"", "zzz", "Name", "a b", tooLong(), tooLong()[1:]}
	for _, f := range l {
		if hasName(f.Kind) {
			all = append(all, f.Name)
		}
	}
	var out []act
	for _, name := range all {
		out = append(out, actGoto(name), actWaive(name))
	}
	return out
}

// saidActs have of each Kind what may fit, and what does not.
func saidActs() []act {
	var out []act
	for _, v := range []impl.Value{
		nothing(), dont(), refuse(), integer(0), integer(1), integer(-mostInt), choice(1), choice(3), choice(0), choices(), choices(1), choices(2, 9), choices(9, 2), words(""), words("x"), words("\n"), {Kind: 7}, {Kind: impl.VaDont, N: 1}, {Kind: impl.VaNone, N: 1},
	} {
		out = append(out, actSay(v))
	}
	return out
}

func allActs(l []impl.Item) []act {
	return slices.Concat(plainActs(), namedActs(l), saidActs())
}

// checkAct takes a right session, and holds what the program makes of it against the document's word.
func checkAct(t *testing.T, s impl.Session, a act) impl.SessionOut {
	t.Helper()
	what := fmt.Sprintf("%s at %q", a.what, s.At)
	want, code := a.word(s, wayOf(s.Items, s.Answers))
	got := a.do(s)
	if code != impl.OK {
		checkNoOut(t, what, got, code)
	} else {
		checkOut(t, what, got, want)
	}
	return got
}

// checkRefused is of a session that is not right.
func checkRefused(t *testing.T, what string, s impl.Session) {
	t.Helper()
	same(t, what+": right", impl.SessionRight(s), false)
	for _, a := range slices.Concat(plainActs(), saidActs()) {
		checkNoOut(t, what+": "+a.what, a.do(s), impl.ErrForm)
	}
	for _, name := range []string{"", "name", "young", "a", "soft", "zzz", tooLong()[1:]} {
		checkNoOut(t, what+": goto "+shown(name), impl.Goto(s, name), impl.ErrForm)
		checkNoOut(t, what+": waive "+shown(name), impl.Waive(s, name), impl.ErrForm)
	}
	checkNoOut(t, what+": goto far", impl.Goto(s, tooLong()), impl.ErrSize)
	checkNoOut(t, what+": waive long", impl.Waive(s, tooLong()), impl.ErrSize)
	same(t, what+": pending", len(impl.Pending(s)), 0)
}

func sessionOf(l []impl.Item, at string, a ...impl.Answer) impl.Session {
	return impl.Session{Items: l, Answers: namely(a...), At: at}
}

func withAt(s impl.Session, at string) impl.Session {
	s.At = at
	return s
}

func withWaived(s impl.Session, names ...string) impl.Session {
	s.Waived = names
	return s
}

func withAnswers(s impl.Session, a ...impl.Answer) impl.Session {
	s.Answers = a
	return s
}

func withItems(s impl.Session, l []impl.Item) impl.Session {
	s.Items = l
	return s
}

// fittingOf leaves of answers those that a session may have.
func fittingOf(w answered) []impl.Answer {
	return slices.DeleteFunc(slices.Clone(w.a), func(a impl.Answer) bool {
		f := itemOf(w.l, a.Name)
		return f.Kind != impl.ItAsk || !fitting(f, a.Value)
	})
}

func softNames(l []impl.Item) []string {
	var out []string
	for _, f := range l {
		if isSoft(f) {
			out = append(out, f.Name)
		}
	}
	slices.Sort(out)
	return out
}

// sessionsOf are right: at each stop of the way, with no check waived, all that may be, and some of these.
func sessionsOf(r *rand.Rand, w answered) []impl.Session {
	a, soft := fittingOf(w), softNames(w.l)
	some := slices.DeleteFunc(slices.Clone(soft), func(string) bool { return r.Intn(2) == 0 })
	var out []impl.Session
	for i, at := range stops(wayOf(w.l, a)) {
		s := sessionOf(w.l, at, a...)
		out = append(out, withWaived(s, [][]string{nil, some, soft}[i%3]...))
	}
	return out
}

// desk* are the ways through the desk's form of one who is of age, of one who is not, and of one whose age breaks both checks.
func deskGrown() []impl.Answer {
	return namely(answer("name", words("Ann")), answer("age", integer(30)), answer("work", choice(2)), answer("likes", choices(1, 4)))
}

func deskYoung() []impl.Answer {
	return namely(answer("name", words("Bob")), answer("age", integer(10)), answer("school", integer(5)), answer("likes", choices()))
}

func deskOld() []impl.Answer {
	return withPut(deskGrown(), "age", integer(120))
}

// brokenForm breaks five checks ahead of the first field, two of them hard; one is off the Path.
func brokenForm() []impl.Item {
	return []impl.Item{
		check("m", never(), "?"), must("hard", never(), "?"), check("c", never(), "?"), check("so", always(), "?"), when(never()), check("off", never(), "?"), end(), must("also", never(), "?"), check("x", never(), "?"), askInt("first"), compute("k", num(1)), askInt("last"),
	}
}

func handSessions() []impl.Session {
	r := rand.New(rand.NewSource(160))
	var out []impl.Session
	ways := append(handWays(), answered{deskItems(), deskOld()}, answered{deskItems(), deskOld()[:2]}, answered{brokenForm(), nil}, answered{brokenForm(), namely(answer("first", integer(1)), answer("last", dont()))})
	for _, w := range ways {
		out = append(out, sessionsOf(r, w)...)
	}
	return out
}

// drawnSessions are of forms with bounds so close that checks are broken, and of others.
func drawnSessions(seed int64, count int) []impl.Session {
	r := rand.New(rand.NewSource(seed))
	var out []impl.Session
	for _, l := range slices.Concat(narrowForms(seed+1, count), randomForms(seed+2, count)) {
		for _, w := range answersOfForm(r, l) {
			out = append(out, sessionsOf(r, w)...)
		}
	}
	return out
}
