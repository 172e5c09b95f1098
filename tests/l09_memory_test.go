package tests

import (
	"fmt"
	"reflect"
	"slices"
	"strings"
	"testing"
	"unsafe"

	"loop.example/g00561/impl"
)

// piece is where a list lies, with all the room behind its end, or a text.
type piece struct {
	what     string
	from, to uintptr
	list     bool
}

func (p piece) meets(q piece) bool {
	return p.from < q.to && q.from < p.to
}

func piecesIn(what string, v reflect.Value) []piece {
	var out []piece
	switch v.Kind() {
	case reflect.Struct:
		for at := range v.NumField() {
			out = append(out, piecesIn(what+"."+v.Type().Field(at).Name, v.Field(at))...)
		}
	case reflect.Slice:
		from := v.Pointer()
		out = append(out, piece{what, from, from + uintptr(v.Cap())*v.Type().Elem().Size(), true})
		for at := range v.Len() {
			out = append(out, piecesIn(fmt.Sprintf("%s[%d]", what, at), v.Index(at))...)
		}
	case reflect.String:
		text := v.String()
		from := uintptr(unsafe.Pointer(unsafe.StringData(text)))
		out = append(out, piece{what, from, from + uintptr(len(text)), false})
	}
	return out
}

// piecesOf are all lists and texts of values, but for what has no room at all.
func piecesOf(what string, values ...any) []piece {
	var out []piece
	for _, v := range values {
		out = append(out, piecesIn(what, reflect.ValueOf(v))...)
	}
	return slices.DeleteFunc(out, func(p piece) bool { return p.from == p.to })
}

// checkNew: no piece of the answer is one of what was handed in, and no two of its lists are one.
func checkNew(t *testing.T, what string, got any, handed ...any) {
	t.Helper()
	own, others := piecesOf("the answer", got), piecesOf("handed in", handed...)
	for i, p := range own {
		for _, q := range others {
			if p.meets(q) {
				t.Errorf("%s: %s and %s share memory", what, p.what, q.what)
			}
		}
		for _, q := range own[:i] {
			if p.list && q.list && p.meets(q) {
				t.Errorf("%s: %s and %s share memory", what, p.what, q.what)
			}
		}
	}
}

func namesApart(names []string) []string {
	out := make([]string, len(names), len(names)+3)
	for i, name := range names {
		out[i] = strings.Clone(name)
	}
	for i := range out[len(names):cap(out)] {
		out[:cap(out)][len(names)+i] = "room"
	}
	return out
}

// sessionApart is in memory of its own, with room behind the ends of its lists that is not the program's either.
func sessionApart(s impl.Session) impl.Session {
	return impl.Session{Items: itemsApart(s.Items), Answers: apart(s.Answers), At: strings.Clone(s.At), Waived: namesApart(s.Waived)}
}

func checkSessionApart(t *testing.T, what string, got, want impl.Session) {
	t.Helper()
	sameSession(t, what, got, want)
	checkItemsApart(t, what, got.Items, want.Items)
	checkApart(t, what, got.Answers, want.Answers)
	for _, name := range got.Waived[len(got.Waived):cap(got.Waived)] {
		same(t, what+": behind what is waived", name, "room")
	}
}

func scribbledSession(s impl.Session) {
	scribbledItems(s.Items)
	scribbled(s.Answers)
	scribbledNames(s.Waived)
}

// memorySessions have texts and names of more than one byte, sets of codes, and more than one check that is waived.
func memorySessions() []impl.Session {
	l := []impl.Item{
		check("soft_a", never(), "{text} has {set1}"), check("soft_b", never(), "?"), check("soft_c", never(), "?"), must("hard", never(), "{set2}"),
		ask("set1", impl.TySet, 1, 9, "Which?"), ask("set2", impl.TySet, 1, 9, "Which?"), ask("text", impl.TyText, 0, 40, "What?"), when(has("set1", 2)), ask("last", impl.TySet, 1, 9, "No braces"), end(),
	}
	codes := choices(1, 2, 3)
	s := sessionOf(l, "", answer("set1", codes), answer("set2", codes), answer("text", words("some words")), answer("last", codes))
	out := []impl.Session{impl.SessionNew(l).Session, withWaived(s, "soft_a", "soft_c"), withWaived(s, "soft_b")}
	for _, at := range []string{"set1", "set2", "text", "last"} {
		out = append(out, withAt(s, at), withWaived(withAt(s, at), "soft_a", "soft_b", "soft_c"), withWaived(withAt(s, at), "soft_b", "soft_c"))
	}
	return append(out, drawnSessions(211, 12)...)
}

// memoryActs are such that are often done, and some that are refused.
func memoryActs(s impl.Session) []act {
	out := append(plainActs(), actWaive("soft_a"), actWaive("soft_b"), actWaive("soft_c"), actGoto("set1"), actGoto("text"), actWaive("hard"), actGoto("f0"), actWaive("f1"))
	for _, v := range []impl.Value{choices(1, 2, 3), choices(2), words("other words"), dont(), integer(1), choice(1), nothing()} {
		out = append(out, actSay(v))
	}
	return out
}

func TestSessionsAreNotChanged(t *testing.T) {
	all := append(memorySessions(), handSessions()...)
	for _, l := range wrongForms() {
		all = append(all, withWaived(sessionOf(l, "name", oneOfEach()...), "b", "a"))
	}
	for _, before := range all {
		s := sessionApart(before)
		impl.SessionRight(s)
		impl.Pending(s)
		impl.SessionNew(s.Items)
		for _, a := range memoryActs(s) {
			a.do(s)
			checkSessionApart(t, a.what, s, before)
		}
	}
}

func TestSessionsKeepNoMemory(t *testing.T) {
	done := 0
	for _, before := range memorySessions() {
		s := sessionApart(before)
		r := wayOf(before.Items, before.Answers)
		for _, a := range memoryActs(s) {
			want, code := a.word(before, r)
			if code != impl.OK {
				continue
			}
			got := a.do(s)
			checkNew(t, a.what, got, s)
			scribbledSession(got.Session)
			checkSessionApart(t, a.what, s, before)
			sameSession(t, a.what+", once more", a.do(s).Session, want)
			done++
		}
		names := impl.Pending(s)
		checkNew(t, "pending", names, s)
		scribbledNames(names)
		checkSessionApart(t, "pending", s, before)
		sameNames(t, "pending, once more", impl.Pending(s), pendingOf(before, r))
		begun := impl.SessionNew(s.Items)
		checkNew(t, "new", begun, s)
		scribbledSession(begun.Session)
		checkSessionApart(t, "new", s, before)
		checkOut(t, "new, once more", impl.SessionNew(s.Items), impl.Session{Items: before.Items, At: wayOf(before.Items, nil).Current})
	}
	same(t, fmt.Sprintf("many are done: %d", done), done > 500, true)
}

// TestSessionsKeepNoName: what is handed in beside a session is not kept either.
func TestSessionsKeepNoName(t *testing.T) {
	s := sessionApart(withWaived(memorySessions()[1], "soft_b"))
	for _, name := range []string{"soft_a", "soft_c"} {
		mine := strings.Clone(name)
		got := impl.Waive(s, mine)
		same(t, "waived", got.Code, int64(impl.OK))
		checkNew(t, "waive "+name, got, s, mine)
	}
	for _, name := range []string{"set1", "set2", "text", "last"} {
		mine := strings.Clone(name)
		got := impl.Goto(s, mine)
		same(t, "gone to", got.Code, int64(impl.OK))
		checkNew(t, "goto "+name, got, s, mine)
	}
	for name, v := range map[string]impl.Value{"set1": choices(1, 2, 3), "last": choices(4), "text": words(strings.Clone("some other words"))} {
		mine := apart([]impl.Answer{answer(name, v)})
		got := impl.Say(withAt(s, name), mine[0].Value)
		same(t, "said", got.Code, int64(impl.OK))
		checkNew(t, "say "+name, got, s, mine)
		scribbledSession(got.Session)
		checkApart(t, "what was said", mine, []impl.Answer{answer(name, v)})
	}
}

// TestSessionsOutliveWhatWasHandedIn: an answer stays as it is when that is written over.
func TestSessionsOutliveWhatWasHandedIn(t *testing.T) {
	for _, before := range memorySessions() {
		r := wayOf(before.Items, before.Answers)
		for _, a := range memoryActs(before) {
			s := sessionApart(before)
			got, pending := a.do(s), impl.Pending(s)
			scribbledSession(s)
			sameNames(t, "pending", pending, pendingOf(before, r))
			if want, code := a.word(before, r); code == impl.OK {
				sameSession(t, a.what, got.Session, want)
			}
		}
	}
}

// TestSessionsOfOneList: what was handed in with lists in common is told apart from them, and from each other.
func TestSessionsOfOneList(t *testing.T) {
	x, codes, name := two(impl.ExSame, num(1), num(2)).parts(), []int64{1, 2}, strings.Clone("some")
	l := []impl.Item{
		{Kind: impl.ItCheck, Name: name + "1", Expr: x, Text: name}, {Kind: impl.ItCheck, Name: name + "2", Expr: x, Text: name},
		ask("one", impl.TySet, 1, 9, name), ask("two", impl.TySet, 1, 9, name),
	}
	s := sessionOf(l, "one", answer("one", choices(codes...)), answer("two", choices(codes...)))
	waived := []string{name + "1", name + "2", "behind"}
	for _, a := range []act{actSay(choices(codes...)), actSay(dont()), actClear(), actForward(), actGoto("two"), actComplete(), actWaive(name + "1")} {
		for count := range 3 {
			here := withWaived(s, waived[:count]...)
			if _, code := a.word(here, wayOf(l, s.Answers)); code != impl.OK {
				continue
			}
			got := a.do(here)
			checkNew(t, a.what, got, here, codes, x, name)
			scribbledSession(got.Session)
			same(t, "what was handed in", slices.Equal(codes, []int64{1, 2}) && slices.Equal(x, never().parts()) && waived[0] == "some1" && waived[1] == "some2" && waived[2] == "behind", true)
		}
	}
	// A piece of a list that goes on behind it is not written on.
	here := withWaived(s, waived[:1]...)
	checkOut(t, "waive", impl.Waive(here, "some2"), withWaived(s, "some1", "some2"))
	here = withWaived(s, waived[1:2]...)
	checkOut(t, "waive ahead", impl.Waive(here, "some1"), withWaived(s, "some1", "some2"))
	same(t, "what goes on behind it", strings.Join(waived, " "), "some1 some2 behind")
}
