package tests

import (
	"fmt"
	"slices"
	"testing"

	"loop.example/g00561/impl"
)

const mostAnswers = 30

func answer(name string, v impl.Value) impl.Answer {
	return impl.Answer{Name: name, Value: v}
}

// oneOfEach has all Kinds but VaNone, rising by Name.
func oneOfEach() []impl.Answer {
	return []impl.Answer{
		answer("age", integer(20)), answer("b2", choice(3)), answer("b_", choices(1, 3)), answer("bb", words(`A "b"`)), answer("c", dont()), answer("d", refuse()),
	}
}

// someOf is the value of the answer at a place, of all Kinds in turn.
func someOf(at int) impl.Value {
	all := []impl.Value{integer(int64(at)), choice(int64(1 + at%20)), choices(2, 7), words("x"), dont(), refuse(), integer(-mostInt), choices(), words("")}
	return all[at%len(all)]
}

// nameAt leaves room between each name and the next one, and ahead of the first.
func nameAt(at int) string {
	return fmt.Sprintf("n%02d", 2*at+1)
}

// besideOf is a name that begins as another one does, and of which there is no answer in these lists.
func besideOf(name string) string {
	return name[:min(19, len(name))] + "q"
}

func manyAnswers(count int) []impl.Answer {
	var out []impl.Answer
	for at := range count {
		out = append(out, answer(nameAt(at), someOf(at)))
	}
	return out
}

// rightAnswers: lists that are right, none to 30 long.
func rightAnswers() [][]impl.Answer {
	out := [][]impl.Answer{nil, {}, oneOfEach(), manyAnswers(1), manyAnswers(2), manyAnswers(29), manyAnswers(30)}
	for _, w := range allWritten() {
		if w.value.Kind != impl.VaNone {
			out = append(out, []impl.Answer{answer("a", w.value)}, []impl.Answer{answer("a", integer(1)), answer("b", w.value), answer("c", choice(1))})
		}
	}
	for _, name := range names {
		out = append(out, []impl.Answer{answer(name, integer(1))})
	}
	return append(out, []impl.Answer{answer("a", integer(1)), answer("a0", integer(1)), answer("a_", integer(1)), answer("aa", integer(1)), answer("b", integer(1))})
}

// wrongAnswers: lists that are not right, none of more than MaxList.
func wrongAnswers() [][]impl.Answer {
	one := integer(1)
	out := [][]impl.Answer{
		{{}}, manyAnswers(31), manyAnswers(32), manyAnswers(49),
		{answer("b", one), answer("a", one)}, {answer("a", one), answer("a", one)}, {answer("a", one), answer("a", integer(2))},
		{answer("a", one), answer("c", one), answer("b", one)}, {answer("a", one), answer("b", one), answer("b", one)}, {answer("a", one), answer("b", one), answer("a", one)},
		{answer("aa", one), answer("a", one)}, {answer("a_", one), answer("a0", one)}, {answer("aa", one), answer("a_", one)}, {answer("n2", one), answer("n10", one)},
		slices.Repeat([]impl.Answer{answer("a", one)}, impl.MaxList), make([]impl.Answer, impl.MaxList),
	}
	for _, name := range append(slices.Clone(notNames), tooLong()) {
		out = append(out, []impl.Answer{answer(name, one)}, []impl.Answer{answer("a", one), answer(name, one)}, []impl.Answer{answer(name, one), answer("z", one)})
	}
	for _, v := range append(wrongValues(), nothing(), impl.Value{Codes: []int64{}}) {
		out = append(out, []impl.Answer{answer("a", v)}, []impl.Answer{answer("a", one), answer("b", v)}, []impl.Answer{answer("a", v), answer("b", one)})
	}
	for at := range mostAnswers {
		l := manyAnswers(mostAnswers)
		l[at].Value = nothing()
		twice := manyAnswers(mostAnswers)
		twice[at].Name = twice[(at+1)%mostAnswers].Name
		out = append(out, l, twice)
	}
	return out
}

func longAnswers() [][]impl.Answer {
	one := []impl.Answer{answer("a", integer(1))}
	return [][]impl.Answer{make([]impl.Answer, impl.MaxList+1), slices.Repeat(one, impl.MaxList+1), slices.Repeat(one, 2*impl.MaxList)}
}

func sameAnswers(t *testing.T, what string, got, want []impl.Answer) {
	t.Helper()
	if len(got) != len(want) {
		t.Errorf("%s: got %d answers, want %d", what, len(got), len(want))
		return
	}
	for i := range want {
		same(t, fmt.Sprintf("%s: the name at %d", what, i), got[i].Name, want[i].Name)
		sameValue(t, fmt.Sprintf("%s: the value at %d", what, i), got[i].Value, want[i].Value)
	}
}

func checkAnswers(t *testing.T, what string, got impl.AnswersOut, want []impl.Answer) {
	t.Helper()
	same(t, what+": the code", got.Code, int64(impl.OK))
	sameAnswers(t, what, got.Answers, want)
}

func checkNoAnswers(t *testing.T, what string, got impl.AnswersOut, code int64) {
	t.Helper()
	same(t, what+": the code", got.Code, code)
	same(t, what+": the answers beside it", len(got.Answers), 0)
}

func TestPromise9Right(t *testing.T) {
	for i, l := range rightAnswers() {
		same(t, fmt.Sprintf("%d: %s", i, shown(l)), impl.AnswersRight(l), true)
	}
	for i, l := range slices.Concat(wrongAnswers(), longAnswers()) {
		same(t, fmt.Sprintf("%d: %s", i, shown(l)), impl.AnswersRight(l), false)
	}
	for count := range 45 {
		same(t, fmt.Sprintf("%d answers", count), impl.AnswersRight(manyAnswers(count)), count <= mostAnswers)
	}
}

func TestPromise9RightOrder(t *testing.T) {
	all := append(slices.Clone(names), "b", "a0", "aa", "n2", "n10", "n_")
	for _, first := range all {
		for _, second := range all {
			l := []impl.Answer{answer(first, integer(1)), answer(second, dont())}
			same(t, first+" ahead of "+second, impl.AnswersRight(l), first < second)
			l = append(l, answer("zz", refuse()))
			same(t, first+" ahead of "+second+" and zz", impl.AnswersRight(l), first < second)
		}
	}
}

func TestPromise9Of(t *testing.T) {
	for _, l := range rightAnswers() {
		for _, a := range l {
			sameValue(t, a.Name, impl.AnswerOf(l, a.Name), a.Value)
			sameValue(t, besideOf(a.Name), impl.AnswerOf(l, besideOf(a.Name)), nothing())
		}
		for _, name := range append(slices.Clone(notNames), "zzz", "n00", "n02", "n60", tooLong()) {
			sameValue(t, shown(name), impl.AnswerOf(l, name), nothing())
		}
	}
	for at := range mostAnswers {
		sameValue(t, nameAt(at), impl.AnswerOf(manyAnswers(mostAnswers), nameAt(at)), someOf(at))
	}
}

func TestPromise9OfWrong(t *testing.T) {
	for _, l := range slices.Concat(wrongAnswers(), longAnswers()) {
		for _, a := range l[:min(len(l), 40)] {
			sameValue(t, shown(a), impl.AnswerOf(l, a.Name), nothing())
		}
		sameValue(t, "another name", impl.AnswerOf(l, "zzz"), nothing())
		sameValue(t, "no name", impl.AnswerOf(l, ""), nothing())
	}
}

// withPut is what the document asks for, by another way than the program's.
func withPut(l []impl.Answer, name string, v impl.Value) []impl.Answer {
	out := slices.DeleteFunc(slices.Clone(l), func(a impl.Answer) bool { return a.Name == name })
	at := 0
	for at < len(out) && out[at].Name < name {
		at++
	}
	return slices.Insert(out, at, answer(name, v))
}

func checkPut(t *testing.T, l []impl.Answer, name string, v impl.Value) {
	t.Helper()
	what := fmt.Sprintf("%s is %s besides %d", name, shown(v), len(l))
	got := impl.AnswerPut(l, name, v)
	checkAnswers(t, what, got, withPut(l, name, v))
	same(t, what+": they are right", impl.AnswersRight(got.Answers), true)
	sameValue(t, what, impl.AnswerOf(got.Answers, name), v)
	for _, a := range l {
		if a.Name != name {
			sameValue(t, what+", and "+a.Name, impl.AnswerOf(got.Answers, a.Name), a.Value)
		}
	}
}

func TestPromise9Put(t *testing.T) {
	values := []impl.Value{integer(5), choice(20), choices(), choices(4, 9), words(""), words(`"`), dont(), refuse()}
	for _, l := range rightAnswers() {
		var all []string
		for _, a := range l {
			all = append(all, a.Name)
		}
		if len(l) < mostAnswers {
			all = append(all, "a0", "bz", "n00", "n02", "n30", "n99", "zz")
		}
		for i, name := range all {
			checkPut(t, l, name, values[i%len(values)])
			checkPut(t, l, name, integer(1))
		}
	}
	for _, w := range allWritten()[1:] {
		checkPut(t, nil, "a", w.value)
		checkPut(t, oneOfEach(), "b3", w.value)
		checkPut(t, oneOfEach(), "b_", w.value)
	}
	for _, name := range names {
		checkPut(t, nil, name, integer(1))
	}
}

func TestPromise9PutTwice(t *testing.T) {
	// Put one by one, in whatever order, they are as if laid down at once.
	for _, step := range []int{1, 7, 11, 29} {
		var l []impl.Answer
		for i := range mostAnswers {
			at := i * step % mostAnswers
			out := impl.AnswerPut(l, nameAt(at), dont())
			same(t, "the code", out.Code, int64(impl.OK))
			l = impl.AnswerPut(out.Answers, nameAt(at), someOf(at)).Answers
		}
		sameAnswers(t, fmt.Sprintf("each %d", step), l, manyAnswers(mostAnswers))
	}
}

func TestPromise9PutFull(t *testing.T) {
	full := manyAnswers(mostAnswers)
	for at := range mostAnswers {
		checkPut(t, full, nameAt(at), words("new"))
		checkNoAnswers(t, "one more, with 30 there", impl.AnswerPut(full, nameAt(at)+"x", words("new")), impl.ErrFull)
		checkNoAnswers(t, "one more, with 30 there", impl.AnswerPut(full, nameAt(at)[:2], words("new")), impl.ErrFull)
	}
	for _, name := range []string{"a", "n00", "n60", "n99", "zz"} {
		checkNoAnswers(t, name+" with 30 there", impl.AnswerPut(full, name, integer(1)), impl.ErrFull)
		checkPut(t, manyAnswers(29), name, integer(1))
	}
}

func TestPromise9PutWrong(t *testing.T) {
	wrong := append(wrongValues(), nothing(), impl.Value{Codes: []int64{}})
	for _, l := range rightAnswers() {
		for _, name := range notNames {
			checkNoAnswers(t, shown(name), impl.AnswerPut(l, name, integer(1)), impl.ErrForm)
			checkNoAnswers(t, shown(name)+" and no answer", impl.AnswerPut(l, name, nothing()), impl.ErrForm)
		}
	}
	for _, l := range [][]impl.Answer{nil, oneOfEach(), manyAnswers(29), manyAnswers(30)} {
		for _, v := range wrong {
			for _, name := range []string{"age", "n01", "zz", ""} {
				checkNoAnswers(t, name+" "+shown(v), impl.AnswerPut(l, name, v), impl.ErrForm)
			}
		}
	}
	for _, l := range wrongAnswers() {
		for _, name := range []string{"a", "b", "n01", "n02", "zz", "", "A"} {
			checkNoAnswers(t, shown(l), impl.AnswerPut(l, name, integer(1)), impl.ErrForm)
			checkNoAnswers(t, shown(l)+" and no answer", impl.AnswerPut(l, name, nothing()), impl.ErrForm)
		}
	}
}

func TestPromise9Drop(t *testing.T) {
	for _, l := range rightAnswers() {
		for at, a := range l {
			got := impl.AnswerDrop(l, a.Name)
			checkAnswers(t, "without "+a.Name, got, slices.Delete(slices.Clone(l), at, at+1))
			same(t, a.Name+": the others are right", impl.AnswersRight(got.Answers), true)
			sameValue(t, a.Name+" is gone", impl.AnswerOf(got.Answers, a.Name), nothing())
			checkNoAnswers(t, a.Name+" twice", impl.AnswerDrop(got.Answers, a.Name), impl.ErrNone)
			checkAnswers(t, a.Name+" put back", impl.AnswerPut(got.Answers, a.Name, a.Value), l)
			checkNoAnswers(t, besideOf(a.Name), impl.AnswerDrop(l, besideOf(a.Name)), impl.ErrNone)
		}
		for _, name := range []string{"zzz", "n00", "n02", "n30", "n60"} {
			checkNoAnswers(t, name, impl.AnswerDrop(l, name), impl.ErrNone)
		}
		for _, name := range notNames {
			checkNoAnswers(t, shown(name), impl.AnswerDrop(l, name), impl.ErrForm)
		}
	}
}

func TestPromise9DropWrong(t *testing.T) {
	for _, l := range wrongAnswers() {
		for _, a := range l[:min(len(l), 40)] {
			if len(a.Name) <= impl.MaxBytes {
				checkNoAnswers(t, shown(l), impl.AnswerDrop(l, a.Name), impl.ErrForm)
			}
		}
		for _, name := range []string{"zzz", "a", "", "A"} {
			checkNoAnswers(t, shown(l), impl.AnswerDrop(l, name), impl.ErrForm)
		}
	}
}

func TestPromise9Size(t *testing.T) {
	atLimit := tooLong()[1:]
	lists := slices.Concat(longAnswers(), wrongAnswers(), [][]impl.Answer{nil, oneOfEach(), manyAnswers(30)})
	for _, l := range lists {
		for _, name := range []string{"a", "zz", "", "A", atLimit, tooLong()} {
			long := len(l) > impl.MaxList || len(name) > impl.MaxBytes
			if !long {
				continue
			}
			for _, v := range []impl.Value{integer(1), nothing(), choice(0)} {
				checkNoAnswers(t, "put", impl.AnswerPut(l, name, v), impl.ErrSize)
			}
			checkNoAnswers(t, "drop", impl.AnswerDrop(l, name), impl.ErrSize)
			sameValue(t, "of", impl.AnswerOf(l, name), nothing())
		}
	}
	for _, l := range [][]impl.Answer{nil, oneOfEach(), make([]impl.Answer, impl.MaxList)} {
		checkNoAnswers(t, "put of 8000 bytes", impl.AnswerPut(l, atLimit, integer(1)), impl.ErrForm)
		checkNoAnswers(t, "drop of 8000 bytes", impl.AnswerDrop(l, atLimit), impl.ErrForm)
	}
	// A text or a list within a Value is not handed in as such.
	checkNoAnswers(t, "a long text", impl.AnswerPut(nil, "a", words(tooLong())), impl.ErrForm)
	checkNoAnswers(t, "many codes", impl.AnswerPut(nil, "a", choices(make([]int64, impl.MaxList+1)...)), impl.ErrForm)
}
