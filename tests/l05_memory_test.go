package tests

import (
	"slices"
	"strings"
	"testing"

	"loop.example/g00561/impl"
)

// apart is a list in memory of its own, with room behind its end that is not the program's either.
func apart(l []impl.Answer) []impl.Answer {
	out := make([]impl.Answer, len(l), len(l)+3)
	for i, a := range l {
		codes := append(slices.Clone(a.Value.Codes), 7, 7)
		out[i] = answer(strings.Clone(a.Name), impl.Value{Kind: a.Value.Kind, N: a.Value.N, Codes: codes[:len(a.Value.Codes)], Text: strings.Clone(a.Value.Text)})
	}
	behind := out[len(l):cap(out)]
	for i := range behind {
		behind[i] = answer("room", integer(7))
	}
	return out
}

func checkApart(t *testing.T, what string, got, want []impl.Answer) {
	t.Helper()
	sameAnswers(t, what, got, want)
	for i := range got {
		codes := got[i].Value.Codes
		same(t, what+": behind the codes", slices.Equal(codes[len(codes):len(codes)+2], []int64{7, 7}), true)
	}
	for _, a := range got[len(got):cap(got)] {
		same(t, what+": behind the list", a.Name == "room" && a.Value.N == 7, true)
	}
}

func TestAnswersAreNotChanged(t *testing.T) {
	for _, before := range slices.Concat(rightAnswers(), wrongAnswers()[:60]) {
		l := apart(before)
		impl.AnswersRight(l)
		impl.AnswersBytes(l)
		for _, name := range []string{"a", "b", "age", "n01", "n02", "zz", "", "A"} {
			v := choices(1, 3, 7)
			impl.AnswerOf(l, name)
			impl.AnswerPut(l, name, v)
			impl.AnswerPut(l, name, nothing())
			impl.AnswerDrop(l, name)
			sameValue(t, "the value", v, choices(1, 3, 7))
		}
		for _, n := range slices.Concat(eachOp(), nested()[:20]) {
			x := n.parts()
			impl.Eval(x, l)
			impl.IsTrue(x, l)
			same(t, n.text()+" is as it was", slices.Equal(x, n.parts()), true)
		}
		checkApart(t, "the answers", l, before)
	}
}

// scribbled writes over all the lists of an answer, so that what shares memory with it is seen.
func scribbled(l []impl.Answer) {
	for i := range l {
		for j := range l[i].Value.Codes {
			l[i].Value.Codes[j] = -9
		}
		l[i] = answer("scribble", integer(-9))
	}
	for i := range l[len(l):cap(l)] {
		l[:cap(l)][len(l)+i] = answer("scribble", integer(-9))
	}
}

func sharesText(a, b []impl.Answer) bool {
	for _, x := range a {
		for _, y := range b {
			if overlaps(x.Name, y.Name) || overlaps(x.Value.Text, y.Value.Text) || overlaps(x.Name, y.Value.Text) || overlaps(x.Value.Text, y.Name) {
				return true
			}
		}
	}
	return false
}

func TestAnswersKeepNoMemory(t *testing.T) {
	for _, before := range [][]impl.Answer{nil, oneOfEach(), manyAnswers(29), manyAnswers(30)} {
		l := apart(before)
		for _, name := range []string{"age", "b_", "bb", "n01", "n05", "n07", "new", "zz"} {
			set, text, key := choices(2, 4, 6), words(strings.Clone("some words")), strings.Clone(name)
			for _, v := range []impl.Value{set, text} {
				put := impl.AnswerPut(l, key, v).Answers
				handed := append(apart(nil), answer(key, v))
				same(t, "put: the texts handed in", sharesText(put, append(handed, l...)), false)
				scribbled(put)
				sameValue(t, "put: the set", set, choices(2, 4, 6))
			}
			drop := impl.AnswerDrop(l, key).Answers
			same(t, "drop: the texts handed in", sharesText(drop, l), false)
			scribbled(drop)
			of := impl.AnswerOf(l, key)
			same(t, "of: the text handed in", sharesText([]impl.Answer{answer("", of)}, l), false)
			scribbled([]impl.Answer{answer("", of)})
			checkApart(t, "the answers", l, before)
		}
	}
}

func TestAnswersReadIsNewMemory(t *testing.T) {
	text := strings.Clone(impl.AnswersBytes(oneOfEach()))
	first, second := impl.AnswersRead(text), impl.AnswersRead(text)
	same(t, "read: the text handed in", sharesText(first.Answers, []impl.Answer{answer(text, words(text))}), false)
	scribbled(first.Answers)
	checkAnswers(t, "the other answer", second, oneOfEach())
	checkAnswers(t, "once more", impl.AnswersRead(text), oneOfEach())

	// Of one answer with a list of codes in each place, no two lists are the same memory.
	var l []impl.Answer
	for at := range mostAnswers {
		l = append(l, answer(nameAt(at), choices(1, 2, 3)))
	}
	shared := choices(1, 2, 3)
	for at := range l {
		l[at].Value = shared
	}
	for _, out := range [][]impl.Answer{impl.AnswersRead(impl.AnswersBytes(l)).Answers, impl.AnswerPut(l, nameAt(3), shared).Answers, impl.AnswerDrop(l, nameAt(3)).Answers} {
		out[0].Value.Codes[0] = -9
		for _, a := range out[1:] {
			sameValue(t, a.Name, a.Value, choices(1, 2, 3))
		}
	}
}
