package tests

import (
	"fmt"
	"math"
	"strings"
	"testing"

	"loop.example/g00561/impl"
)

func TestPromise1PutText(t *testing.T) {
	same(t, "empty", impl.PutText(""), "\x00")
	same(t, "ab", impl.PutText("ab"), "\x04ab")
	same(t, "bytes of any kind", impl.PutText("\x00\xff\x80"), "\x06\x00\xff\x80")
	for _, size := range []int{0, 1, 2, 63, 64, 65, 255, 4000, 7997, 7998, 7999, impl.MaxBytes} {
		text := sample(size)
		same(t, fmt.Sprintf("%d bytes", size), impl.PutText(text), impl.PutNum(int64(size))+text)
	}
	same(t, "bytes in all", len(impl.PutText(sample(impl.MaxBytes))), impl.MaxBytes+2)
	for _, size := range []int{impl.MaxBytes + 1, impl.MaxBytes + 2, 20000} {
		same(t, fmt.Sprintf("%d bytes", size), impl.PutText(sample(size)), "")
	}
}

func TestPromise1TextBack(t *testing.T) {
	for _, size := range []int{0, 1, 2, 5, 62, 63, 64, 65, 255, 256, 4000, 7990} {
		text := sample(size)
		b := impl.PutText(text)
		for _, ahead := range []string{"", "x", "\xff\xff"} {
			for _, behind := range []string{"", "\x00", "abc"} {
				from := int64(len(ahead))
				got := impl.GetText(ahead+b+behind, from)
				want := impl.TextOut{Text: text, At: from + int64(len(b))}
				same(t, fmt.Sprintf("%d bytes, %q ahead, %q behind", size, ahead, behind), got, want)
			}
		}
	}
}

func TestPromise1TextFitsIn(t *testing.T) {
	fits := sample(impl.MaxBytes - 2)
	same(t, "MaxBytes with its length", impl.GetText(impl.PutText(fits), 0), impl.TextOut{Text: fits, At: impl.MaxBytes})
	for _, size := range []int{impl.MaxBytes - 1, impl.MaxBytes} {
		got := impl.GetText(impl.PutText(sample(size)), 0)
		same(t, fmt.Sprintf("%d bytes", size), got, impl.TextOut{Code: impl.ErrSize})
	}
}

func TestPromise1TextOneByOne(t *testing.T) {
	words := []string{"", "a", "bc", sample(100), "", sample(64)}
	text := "##"
	for _, w := range words {
		text += impl.PutText(w)
	}
	at := int64(2)
	for i, w := range words {
		got := impl.GetText(text, at)
		same(t, fmt.Sprintf("word %d", i), got, impl.TextOut{Text: w, At: at + int64(len(impl.PutText(w)))})
		at = got.At
	}
	same(t, "the end", at, int64(len(text)))
	same(t, "behind the end", impl.GetText(text, at), impl.TextOut{Code: impl.ErrShort})
}

func TestPromise1TextShort(t *testing.T) {
	short := impl.TextOut{Code: impl.ErrShort}
	for _, size := range []int{1, 3, 63, 64, 300} {
		b := impl.PutText(sample(size))
		for cut := range len(b) {
			same(t, fmt.Sprintf("%d bytes cut at %d", size, cut), impl.GetText(b[:cut], 0), short)
			same(t, fmt.Sprintf("%d bytes cut at %d, two ahead", size, cut), impl.GetText("xy"+b[:cut], 2), short)
		}
	}
	for _, at := range []int64{1, 2, 8000, 8001, 1 << 32, math.MaxInt64} {
		same(t, fmt.Sprintf("at %d of one byte", at), impl.GetText("\x00", at), short)
		same(t, fmt.Sprintf("at %d of none", at-1), impl.GetText("", at-1), short)
	}
	same(t, "the greatest length", impl.GetText(impl.PutNum(impl.MaxBytes)+sample(7998), 0), short)
	same(t, "a length without its text", impl.GetText(impl.PutNum(impl.MaxBytes), 0), short)
}

func TestPromise1TextLength(t *testing.T) {
	wrong := impl.TextOut{Code: impl.ErrSyntax}
	for _, size := range []int64{-1, -2, -8000, math.MinInt64, impl.MaxBytes + 1, 9000, 1 << 32, math.MaxInt64} {
		for _, behind := range []string{"", "a", sample(7000)} {
			same(t, fmt.Sprintf("length %d, %d bytes behind", size, len(behind)), impl.GetText(impl.PutNum(size)+behind, 0), wrong)
			same(t, fmt.Sprintf("length %d behind a byte", size), impl.GetText("x"+impl.PutNum(size)+behind, 1), wrong)
		}
	}
}

func TestPromise1TextNumFaults(t *testing.T) {
	wrong := impl.TextOut{Code: impl.ErrSyntax}
	same(t, "needless bytes", impl.GetText("\x80\x00", 0), wrong)
	same(t, "needless bytes and a text", impl.GetText("\x84\x00ab", 0), wrong)
	for b := 2; b < 256; b++ {
		text := strings.Repeat("\x80", 9) + string([]byte{byte(b)})
		same(t, fmt.Sprintf("tenth byte %d", b), impl.GetText(text, 0), wrong)
	}
	for count := range 10 {
		same(t, fmt.Sprintf("%d bytes of a length", count), impl.GetText(strings.Repeat("\x80", count), 0), impl.TextOut{Code: impl.ErrShort})
	}
}

func TestAnswersAreNewMemory(t *testing.T) {
	text := impl.PutText(sample(100))
	same(t, "GetText", overlaps(impl.GetText(text, 0).Text, text), false)
	sealed := impl.Seal(sample(100))
	same(t, "Unseal", overlaps(impl.Unseal(sealed).Text, sealed), false)
	plain := sample(100)
	same(t, "PutText", overlaps(impl.PutText(plain), plain), false)
	same(t, "Seal", overlaps(impl.Seal(plain), plain), false)
}

func TestNameRight(t *testing.T) {
	right := []string{"a", "z", "m", "a_9", "a0", "a_", "ab", "z9_z", "a__________________9", strings.Repeat("q", 20), "q" + strings.Repeat("_", 19)}
	for _, n := range right {
		same(t, fmt.Sprintf("%q", n), impl.NameRight(n), true)
	}
	wrong := []string{"", "_a", "9a", "A", "aB", "a b", " a", "a ", "a-b", "a.b", "a\n", "a\x00", "\x00", "ä", "aé", "a\xff", strings.Repeat("q", 21), strings.Repeat("q", 22), tooLong(), strings.Repeat("q", impl.MaxBytes)}
	for _, n := range wrong {
		same(t, fmt.Sprintf("%.30q of %d bytes", n, len(n)), impl.NameRight(n), false)
	}
}

func TestNameBytes(t *testing.T) {
	const first = "abcdefghijklmnopqrstuvwxyz"
	const later = first + "0123456789_"
	name := strings.Repeat("n", 20)
	for b := range 256 {
		one := string([]byte{byte(b)})
		same(t, fmt.Sprintf("%q alone", one), impl.NameRight(one), strings.Contains(first, one))
		same(t, fmt.Sprintf("%q first", one), impl.NameRight(one+name[1:]), strings.Contains(first, one))
		for at := 1; at < len(name); at++ {
			got := impl.NameRight(name[:at] + one + name[at+1:])
			same(t, fmt.Sprintf("%q at %d", one, at), got, strings.Contains(later, one))
		}
	}
}
