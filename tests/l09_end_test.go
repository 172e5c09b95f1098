package tests

import (
	"fmt"
	"math/rand"
	"slices"
	"testing"

	"loop.example/g00561/impl"
)

// answerAll says to each field what the function has for it, until the end is there; it tells how many steps that took.
func answerAll(t *testing.T, l []impl.Item, say func(f impl.Item) impl.Value) int {
	t.Helper()
	s := impl.SessionNew(l).Session
	var asked []string
	for s.At != "" {
		if len(asked) > len(l) {
			t.Errorf("%s: no end of it: %v", shown(l), asked)
			break
		}
		same(t, s.At+" is asked once", slices.Contains(asked, s.At), false)
		asked = append(asked, s.At)
		out := checkAct(t, s, actSay(say(itemOf(l, s.At))))
		same(t, "it fits", out.Code, int64(impl.OK))
		s = out.Session
	}
	r := impl.RouteOf(l, s.Answers)
	same(t, "it is done", r.Done, true)
	sameNames(t, "the way", r.Path, asked)
	same(t, fmt.Sprintf("%d steps by %d items", len(asked), len(l)), len(asked) <= len(l), true)
	return len(asked)
}

func TestPromise18Drawn(t *testing.T) {
	r := rand.New(rand.NewSource(200))
	steps := 0
	for _, l := range slices.Concat(rightForms(), randomForms(201, 500), narrowForms(202, 500), [][]impl.Item{brokenForm(), wideForm()}) {
		steps += answerAll(t, l, func(impl.Item) impl.Value { return dont() })
		for range 3 {
			steps += answerAll(t, l, func(f impl.Item) impl.Value { return fitFor(r, f) })
		}
	}
	same(t, fmt.Sprintf("many steps: %d", steps), steps > 10000, true)
}

func TestPromise18Blocks(t *testing.T) {
	for _, w := range allBlocks() {
		steps := answerAll(t, w.l, func(impl.Item) impl.Value { return integer(1) })
		same(t, shown(w.l), steps, len(wayOf(w.l, w.a).Path))
	}
}

func TestPromise18Many(t *testing.T) {
	for count := range mostItems + 1 {
		same(t, fmt.Sprintf("%d fields", count), answerAll(t, manyItems(count), func(impl.Item) impl.Value { return refuse() }), count)
	}
}

// TestSessionActs goes from act to act, and holds each of them against the document's word.
func TestSessionActs(t *testing.T) {
	r := rand.New(rand.NewSource(203))
	codes := map[int64]int{}
	byHand := slices.Repeat([][]impl.Item{deskItems(), brokenForm(), wideForm(), nil}, 15)
	for _, l := range slices.Concat(narrowForms(204, 250), randomForms(205, 100), byHand) {
		s := impl.SessionNew(l).Session
		named := namedActs(l)
		for range 60 {
			a := named[r.Intn(len(named))]
			switch r.Intn(10) {
			case 0, 1, 2, 3:
				a = actSay(dont())
				if f := itemOf(l, s.At); f.Kind == impl.ItAsk {
					a = actSay(fitFor(r, f))
				}
			case 4:
				a = saidActs()[r.Intn(len(saidActs()))]
			case 5:
				a = actClear()
			case 6, 7:
				a = plainActs()[r.Intn(len(plainActs()))]
			case 8:
				if len(s.Waived) > 0 {
					a = actWaive(s.Waived[r.Intn(len(s.Waived))])
				}
			}
			out := checkAct(t, s, a)
			codes[out.Code]++
			if out.Code == impl.OK {
				s = out.Session
			}
		}
	}
	for _, code := range []int64{impl.OK, impl.ErrSize, impl.ErrNone, impl.ErrThere, impl.ErrRange, impl.ErrState, impl.ErrType} {
		same(t, fmt.Sprintf("many of the code %d: %d", code, codes[code]), codes[code] > 50, true)
	}
}

// TestSessionActsAll: all acts, at each of some sessions.
func TestSessionActsAll(t *testing.T) {
	for _, s := range append(drawnSessions(206, 15), handSessions()...) {
		for _, a := range allActs(s.Items) {
			checkAct(t, s, a)
		}
	}
}

// TestSessionActsRefused: a session that is not right is refused whatever is done with it.
func TestSessionActsRefused(t *testing.T) {
	r := rand.New(rand.NewSource(207))
	count := 0
	for _, s := range drawnSessions(208, 60) {
		if len(s.Items) == 0 {
			continue
		}
		if turned := turnedSession(r, s); !sessionMade(turned) {
			checkRefused(t, shown(turned), turned)
			count++
		}
	}
	same(t, fmt.Sprintf("many are refused: %d", count), count > 200, true)
}
