package tests

import (
	"fmt"
	"math"
	"slices"
	"strings"
	"testing"

	"loop.example/g00561/impl"
)

// numBytes and textBytes are laid here for numbers from -8192 to 8191 alone, by themselves, not by the program.
func numBytes(n int) string {
	u := 2 * n
	if n < 0 {
		u = -2*n - 1
	}
	if u < 128 {
		return string([]byte{byte(u)})
	}
	return string([]byte{byte(u%128 + 128), byte(u / 128)})
}

func textBytes(text string) string {
	return numBytes(len(text)) + text
}

// pair is an answer as it is written: a name, and the text of a value.
type pair struct {
	name, text string
}

func pairBytes(count int, pairs ...pair) string {
	out := numBytes(count)
	for _, p := range pairs {
		out += textBytes(p.name) + textBytes(p.text)
	}
	return out
}

func pairsOf(l []impl.Answer) []pair {
	var out []pair
	for _, a := range l {
		out = append(out, pair{a.Name, impl.ValueText(a.Value)})
	}
	return out
}

func TestPromise9Bytes(t *testing.T) {
	same(t, "none", impl.AnswersBytes(nil), "\x00")
	same(t, "one", impl.AnswersBytes([]impl.Answer{answer("age", integer(-20))}), "\x02\x06age\x06-20")
	each := pairBytes(6, pair{"age", "20"}, pair{"b2", "#3"}, pair{"b_", "{1,3}"}, pair{"bb", `"A ""b"""`}, pair{"c", "DK"}, pair{"d", "RF"})
	same(t, "one of each", impl.AnswersBytes(oneOfEach()), each)
	long := strings.Repeat(`"`, 82)
	same(t, "a long one", impl.AnswersBytes([]impl.Answer{answer("a", words(strings.Repeat(`"`, 40)))}), "\x02\x02a\xa4\x01"+long)
	for _, l := range rightAnswers() {
		same(t, shown(l), impl.AnswersBytes(l), pairBytes(len(l), pairsOf(l)...))
	}
	for _, l := range slices.Concat(wrongAnswers(), longAnswers()) {
		same(t, shown(l), impl.AnswersBytes(l), "")
	}
}

func longestAnswers() []impl.Answer {
	l := manyAnswers(mostAnswers)
	for at := range l {
		l[at].Name = strings.Repeat("n", 17) + nameAt(at)
		l[at].Value = words(strings.Repeat(`"`, 40))
	}
	return l
}

func TestPromise9BytesBack(t *testing.T) {
	for _, l := range append(rightAnswers(), longestAnswers()) {
		text := impl.AnswersBytes(l)
		checkAnswers(t, shown(text), impl.AnswersRead(text), l)
	}
	for count := range mostAnswers + 1 {
		l := manyAnswers(count)
		checkAnswers(t, fmt.Sprint(count), impl.AnswersRead(pairBytes(count, pairsOf(l)...)), l)
	}
}

func TestPromise9ReadCut(t *testing.T) {
	for _, l := range [][]impl.Answer{nil, oneOfEach(), manyAnswers(1), manyAnswers(2), manyAnswers(30), longestAnswers()} {
		text := impl.AnswersBytes(l)
		for cut := range len(text) {
			checkNoAnswers(t, fmt.Sprintf("%d bytes of %s", cut, shown(text)), impl.AnswersRead(text[:cut]), impl.ErrSyntax)
		}
		for b := range 256 {
			checkNoAnswers(t, fmt.Sprintf("%d behind it", b), impl.AnswersRead(text+string([]byte{byte(b)})), impl.ErrSyntax)
		}
		if len(l) > 0 {
			checkNoAnswers(t, "twice", impl.AnswersRead(text+text), impl.ErrSyntax)
		}
	}
}

func TestPromise9ReadCount(t *testing.T) {
	for _, l := range [][]impl.Answer{nil, oneOfEach(), manyAnswers(1), manyAnswers(30)} {
		for count := -70; count <= 300; count++ {
			if count == len(l) {
				continue
			}
			checkNoAnswers(t, fmt.Sprintf("%d instead of %d", count, len(l)), impl.AnswersRead(pairBytes(count, pairsOf(l)...)), impl.ErrSyntax)
		}
		rest := impl.AnswersBytes(l)[1:]
		for _, count := range []int64{math.MaxInt64, math.MinInt64, 1 << 32, 1<<32 + int64(len(l)), 1<<40 + int64(len(l)), -1 << 40, 1 << 62} {
			checkNoAnswers(t, fmt.Sprintf("%d instead of %d", count, len(l)), impl.AnswersRead(impl.PutNum(count)+rest), impl.ErrSyntax)
		}
	}
	for count := 31; count < 50; count++ {
		checkNoAnswers(t, fmt.Sprint(count), impl.AnswersRead(pairBytes(count, pairsOf(manyAnswers(count))...)), impl.ErrSyntax)
	}
}

func TestPromise9ReadNeedless(t *testing.T) {
	for _, text := range []string{
		"\x80\x00", "\x82\x00\x02a\x021", "\x02\x82\x00a\x021", "\x02\x02a\x82\x001", "\x02\x82\x80\x00a\x021", "\x02\x02a\x82\x80\x00" + "1",
		"\x80\x80\x80\x80\x80\x80\x80\x80\x80\x02", "\x80", "\xff\xff\xff\xff\xff\xff\xff\xff\xff\xff\x01",
		"\x02\x01a\x021", "\x02\x02a\x011", "\x02\x00\x021", "\x02\x02a", "\x02\x02a\x04" + "1", "\x02\x04a\x021", "\x02\x02a\x021\x00",
		"\x02\x02a\xff\xff\xff\xff\xff\xff\xff\xff\xff\x011", "\x02\xfe\xff\xff\xff\xff\xff\xff\xff\xff\x01" + "a\x021",
	} {
		checkNoAnswers(t, shown(text), impl.AnswersRead(text), impl.ErrSyntax)
	}
	checkAnswers(t, "as it should be", impl.AnswersRead("\x02\x02a\x021"), []impl.Answer{answer("a", integer(1))})
}

func TestPromise9ReadNames(t *testing.T) {
	for _, name := range notNames {
		checkNoAnswers(t, shown(name), impl.AnswersRead(pairBytes(1, pair{name, "1"})), impl.ErrSyntax)
		checkNoAnswers(t, shown(name), impl.AnswersRead(pairBytes(2, pair{"a", "1"}, pair{name, "1"})), impl.ErrSyntax)
	}
	for _, first := range names {
		for _, second := range names {
			got := impl.AnswersRead(pairBytes(2, pair{first, "1"}, pair{second, "DK"}))
			if first < second {
				checkAnswers(t, first+" "+second, got, []impl.Answer{answer(first, integer(1)), answer(second, dont())})
			} else {
				checkNoAnswers(t, first+" "+second, got, impl.ErrSyntax)
			}
		}
	}
}

func TestPromise9ReadValues(t *testing.T) {
	for _, text := range []string{"", " ", "dk", "DKK", "01", "-0", "+1", "1 ", "1000000001", "#0", "#21", "#01", "{", "{2,1}", "{1,1}", "{21}", "{1,}", `"`, `"a`, `"""`, `"` + strings.Repeat("x", 41) + `"`, "\"\n\"", "x", "\x00"} {
		what := shown(text)
		checkNoAnswers(t, what, impl.AnswersRead(pairBytes(1, pair{"a", text})), impl.ErrSyntax)
		checkNoAnswers(t, what, impl.AnswersRead(pairBytes(2, pair{"a", text}, pair{"b", "1"})), impl.ErrSyntax)
		checkNoAnswers(t, what, impl.AnswersRead(pairBytes(2, pair{"a", "1"}, pair{"b", text})), impl.ErrSyntax)
	}
}

func TestPromise9ReadLong(t *testing.T) {
	for _, ahead := range []string{"", "\x00", "\x02", "\x3c", impl.AnswersBytes(oneOfEach()), "\x02\x02a\x021"} {
		for _, b := range []string{"\x00", "a", "\x02", "\xff", " "} {
			text := (ahead + strings.Repeat(b, impl.MaxBytes))[:impl.MaxBytes]
			checkNoAnswers(t, "8000 bytes", impl.AnswersRead(text), impl.ErrSyntax)
			checkNoAnswers(t, "8001 bytes", impl.AnswersRead(text+b), impl.ErrSize)
			checkNoAnswers(t, "16000 bytes", impl.AnswersRead(text+text), impl.ErrSize)
		}
	}
	// A text within that has as many bytes as a text may have at most.
	checkNoAnswers(t, "a long name", impl.AnswersRead(pairBytes(1, pair{strings.Repeat("a", impl.MaxBytes-10), "1"})), impl.ErrSyntax)
	checkNoAnswers(t, "a long value", impl.AnswersRead(pairBytes(1, pair{"a", strings.Repeat("1", impl.MaxBytes-10)})), impl.ErrSyntax)
}

// TestPromise9ReadTurned: whatever a byte is turned into, what is read has just these bytes.
func TestPromise9ReadTurned(t *testing.T) {
	read := 0
	for _, l := range [][]impl.Answer{oneOfEach(), manyAnswers(3)} {
		text := []byte(impl.AnswersBytes(l))
		for at := range text {
			for b := range 256 {
				other := slices.Clone(text)
				other[at] = byte(b)
				got := impl.AnswersRead(string(other))
				if got.Code != impl.OK {
					checkNoAnswers(t, shown(string(other)), got, impl.ErrSyntax)
					continue
				}
				read++
				same(t, shown(string(other))+": they are right", impl.AnswersRight(got.Answers), true)
				same(t, "the bytes", pairBytes(len(got.Answers), pairsOf(got.Answers)...), string(other))
			}
		}
	}
	same(t, "many are read", read > 500, true)
}
