package tests

import (
	"fmt"
	"slices"
	"strings"
	"testing"

	"loop.example/g00561/impl"
)

// checkMoves goes to all stops of the way, back and on from each of them, and from one to all others.
func checkMoves(t *testing.T, what string, s impl.Session) {
	t.Helper()
	r := wayOf(s.Items, s.Answers)
	all := stops(r)
	for i, at := range all {
		here := withAt(s, at)
		back, forward := impl.Back(here), impl.Forward(here)
		if i == 0 {
			checkNoOut(t, what+": back from the first one", back, impl.ErrRange)
		} else {
			checkOut(t, what+": back from "+at, back, withAt(s, all[i-1]))
			checkOut(t, what+": and on again", impl.Forward(back.Session), here)
		}
		if i == len(all)-1 {
			checkNoOut(t, what+": on from the last one", forward, impl.ErrState)
		} else {
			checkOut(t, what+": on from "+at, forward, withAt(s, all[i+1]))
			checkOut(t, what+": and back again", impl.Back(forward.Session), here)
		}
		for _, name := range r.Path {
			checkOut(t, what+": from "+at+" to "+name, impl.Goto(here, name), withAt(s, name))
		}
	}
}

func TestPromise16Desk(t *testing.T) {
	desk := deskItems()
	for _, c := range []struct {
		what string
		a    []impl.Answer
		all  []string
	}{
		{"nothing yet", nil, []string{"name"}},
		{"one", namely(answer("name", words("Ann"))), []string{"name", "age"}},
		{"at work", namely(answer("name", words("Ann")), answer("age", integer(30))), []string{"name", "age", "work"}},
		{"at school", namely(answer("name", words("Ann")), answer("age", dont()), answer("work", choice(1))), []string{"name", "age", "school"}},
		{"at likes", namely(answer("name", words("Ann")), answer("age", integer(30)), answer("work", choice(1))), []string{"name", "age", "work", "likes"}},
		{"done", deskGrown(), []string{"name", "age", "work", "likes", ""}},
		{"done, not of age", deskYoung(), []string{"name", "age", "school", "likes", ""}},
		{"done, work is off", withPut(deskYoung(), "work", choice(1)), []string{"name", "age", "school", "likes", ""}},
		{"done, both broken", deskOld(), []string{"name", "age", "work", "likes", ""}},
		{"behind the first, others told", deskGrown()[:1], []string{"name"}},
	} {
		s := withWaived(sessionOf(desk, "name", c.a...), "young")
		sameNames(t, c.what, stops(wayOf(desk, s.Answers)), c.all)
		checkMoves(t, c.what, s)
	}
}

func TestPromise16Back(t *testing.T) {
	s := sessionOf(deskItems(), "", deskGrown()...)
	checkOut(t, "from the end", impl.Back(s), withAt(s, "likes"))
	checkNoOut(t, "from the first one", impl.Back(withAt(s, "name")), impl.ErrRange)
	checkNoOut(t, "from the first one, which is the Current one", impl.Back(impl.SessionNew(deskItems()).Session), impl.ErrRange)
	checkNoOut(t, "an empty form", impl.Back(impl.Session{}), impl.ErrRange)
	for _, l := range [][]impl.Item{{check("a", always(), "?")}, brokenForm()[:9], {compute("k", num(1))}, {when(never()), askInt("a"), end()}, {when(always()), otherwise(), askInt("a"), end()}} {
		checkNoOut(t, "nothing is on the Path", impl.Back(sessionOf(l, "")), impl.ErrRange)
		checkNoOut(t, "nothing is on the Path, others told", impl.Back(withWaived(sessionOf(l, ""), softNames(l)...)), impl.ErrRange)
	}
	only := sessionOf([]impl.Item{askInt("a")}, "", answer("a", dont()))
	checkOut(t, "to the only one", impl.Back(only), withAt(only, "a"))
	checkNoOut(t, "from the only one", impl.Back(withAt(only, "a")), impl.ErrRange)
}

func TestPromise16Forward(t *testing.T) {
	s := sessionOf(deskItems(), "likes", deskGrown()...)
	checkOut(t, "to the end", impl.Forward(s), withAt(s, ""))
	checkNoOut(t, "from the end", impl.Forward(withAt(s, "")), impl.ErrState)
	checkNoOut(t, "an empty form", impl.Forward(impl.Session{}), impl.ErrState)
	checkNoOut(t, "from the Current one", impl.Forward(impl.SessionNew(deskItems()).Session), impl.ErrState)
	for at := range mostItems {
		l, a := manyItems(mostItems), []impl.Answer(nil)
		for _, f := range l[:at] {
			a = append(a, answer(f.Name, refuse()))
		}
		here := sessionOf(l, nameAt(at), a...)
		checkNoOut(t, "from the Current one of 24", impl.Forward(here), impl.ErrState)
		if at > 0 {
			checkOut(t, "to the Current one of 24", impl.Forward(withAt(here, nameAt(at-1))), here)
		}
	}
	// One that is broken does not hold up, not even a hard one.
	old := sessionOf(deskItems(), "work", deskOld()...)
	checkOut(t, "by what is broken", impl.Forward(old), withAt(old, "likes"))
	checkOut(t, "and to the end", impl.Forward(withAt(old, "likes")), withAt(old, ""))
}

func TestPromise16Goto(t *testing.T) {
	s := sessionOf(deskItems(), "age", withPut(deskGrown(), "school", integer(3))...)
	for _, at := range []string{"", "name", "age", "work", "likes"} {
		here := withAt(s, at)
		for _, name := range []string{"name", "age", "work", "likes"} {
			checkOut(t, at+" to "+name, impl.Goto(here, name), withAt(s, name))
		}
		for _, name := range []string{"school", "left", "young", "sane", "", "zzz", "nam", "names", "Name", "name ", " name", "name,age", "\x00", tooLong()[1:]} {
			checkNoOut(t, at+" to "+shown(name), impl.Goto(here, name), impl.ErrNone)
		}
		checkNoOut(t, at+" too far", impl.Goto(here, tooLong()), impl.ErrSize)
		checkNoOut(t, at+" much too far", impl.Goto(here, strings.Repeat("name", impl.MaxBytes)), impl.ErrSize)
	}
	begun := impl.SessionNew(deskItems()).Session
	checkNoOut(t, "not so far yet", impl.Goto(begun, "age"), impl.ErrNone)
	checkNoOut(t, "to the end, which is not there yet", impl.Goto(begun, ""), impl.ErrNone)
	checkOut(t, "where it is", impl.Goto(begun, "name"), begun)
	checkNoOut(t, "an empty form", impl.Goto(impl.Session{}, ""), impl.ErrNone)
	long := strings.Repeat("n", 20)
	most := sessionOf([]impl.Item{askInt(long), askInt("a")}, "a", answer(long, dont()))
	checkOut(t, "20 bytes", impl.Goto(most, long), withAt(most, long))
	checkNoOut(t, "21 bytes", impl.Goto(most, long+"n"), impl.ErrNone)
	checkNoOut(t, "19 bytes", impl.Goto(most, long[1:]), impl.ErrNone)
}

func TestPromise16Drawn(t *testing.T) {
	moved := 0
	seen := ""
	for _, s := range append(drawnSessions(181, 120), handSessions()...) {
		for _, a := range []act{actBack(), actForward(), actGoto("f0"), actGoto("f5"), actGoto(s.At)} {
			if checkAct(t, s, a).Code == impl.OK {
				moved++
			}
		}
		// Of the sessions of one way, which lie side by side, one is gone through from all its stops.
		if way := fmt.Sprint(s.Items, s.Answers); way != seen {
			seen = way
			checkMoves(t, shown(s), s)
		}
	}
	same(t, fmt.Sprintf("many are moved: %d", moved), moved > 3000, true)
}

// TestPromise16RoundTrip: as many times on as back, and the other way round, from any stop.
func TestPromise16RoundTrip(t *testing.T) {
	l, a := manyItems(mostItems), []impl.Answer(nil)
	for _, f := range l {
		a = append(a, answer(f.Name, dont()))
	}
	s := sessionOf(l, nameAt(0), a...)
	path := append(slices.Clone(wayOf(l, a).Path), "")
	for from := range path {
		for far := range len(path) - from {
			here := withAt(s, path[from])
			there := here
			for range far {
				there = impl.Forward(there).Session
			}
			same(t, "so far on", there.At, path[from+far])
			for range far {
				there = impl.Back(there).Session
			}
			sameSession(t, "and back", there, here)
		}
	}
}
