package tests

import (
	"fmt"
	"hash/crc32"
	"math"
	"strings"
	"testing"

	"loop.example/g00561/impl"
)

func crcOf(text string) int64 {
	return int64(crc32.ChecksumIEEE([]byte(text)))
}

func TestPromise2CrcKnown(t *testing.T) {
	known := []struct {
		text string
		crc  int64
	}{
		{"", 0}, {"a", 0xE8B7BE43}, {"abc", 0x352441C2}, {"123456789", 0xCBF43926},
		{"The quick brown fox jumps over the lazy dog", 0x414FA339},
		{"\x00", 0xD202EF8D}, {"\xff", 0xFF000000}, {"\xff\xff\xff\xff", 0xFFFFFFFF}, {"\x00\x00\x00\x00", 0x2144DF1C},
	}
	for _, k := range known {
		same(t, fmt.Sprintf("Crc(%q)", k.text), impl.Crc(k.text), k.crc)
	}
	for b := range 256 {
		text := string([]byte{byte(b)})
		same(t, fmt.Sprintf("Crc(%q)", text), impl.Crc(text), crcOf(text))
	}
}

func TestPromise2CrcSizes(t *testing.T) {
	for _, size := range []int{1, 2, 3, 4, 5, 63, 64, 255, 256, 257, 1000, 7999, impl.MaxBytes} {
		same(t, fmt.Sprintf("%d bytes", size), impl.Crc(sample(size)), crcOf(sample(size)))
	}
	for _, size := range []int{impl.MaxBytes + 1, impl.MaxBytes + 2, 20000} {
		same(t, fmt.Sprintf("%d bytes", size), impl.Crc(sample(size)), int64(0))
		same(t, fmt.Sprintf("%d bytes behind", size), impl.CrcMore(impl.Crc("a"), sample(size)), int64(0))
		same(t, fmt.Sprintf("%d bytes behind none", size), impl.CrcMore(0, sample(size)), int64(0))
	}
}

func TestPromise2CrcMoreCuts(t *testing.T) {
	for _, text := range []string{"", "a", "123456789", "\x00\x00\x00", "\xff\xff\xff\xff\xff", sample(300)} {
		for cut := range len(text) + 1 {
			got := impl.CrcMore(impl.Crc(text[:cut]), text[cut:])
			same(t, fmt.Sprintf("%d bytes cut at %d", len(text), cut), got, crcOf(text))
		}
	}
	long := sample(impl.MaxBytes)
	same(t, "two of MaxBytes bytes", impl.CrcMore(impl.Crc(long), long), crcOf(long+long))
	three := impl.CrcMore(impl.CrcMore(impl.Crc("12"), "345"), "6789")
	same(t, "three texts", three, int64(0xCBF43926))
}

func TestPromise2CrcMoreRange(t *testing.T) {
	for _, crc := range []int64{-1, -2, -1 << 32, -1 << 31, 1 << 32, 1<<32 + 1, 1 << 40, math.MinInt64, math.MaxInt64} {
		for _, text := range []string{"", "a", "123456789"} {
			same(t, fmt.Sprintf("CrcMore(%d, %q)", crc, text), impl.CrcMore(crc, text), int64(0))
		}
	}
	for _, crc := range []int64{0, 1, 2, 0xEDB88320, 1 << 31, 1<<31 - 1, 1<<32 - 2, 1<<32 - 1} {
		same(t, fmt.Sprintf("CrcMore(%d, none)", crc), impl.CrcMore(crc, ""), crc)
		want := int64(crc32.Update(uint32(crc), crc32.IEEETable, []byte("ab")))
		same(t, fmt.Sprintf("CrcMore(%d, ab)", crc), impl.CrcMore(crc, "ab"), want)
	}
}

func TestPromise2SealBytes(t *testing.T) {
	same(t, "empty", impl.Seal(""), "\x00\x00\x00\x00")
	same(t, "a", impl.Seal("a"), "a\x43\xbe\xb7\xe8")
	same(t, "digits", impl.Seal("123456789"), "123456789\x26\x39\xf4\xcb")
	for _, size := range []int{impl.MaxBytes - 3, impl.MaxBytes - 2, impl.MaxBytes, impl.MaxBytes + 1, 20000} {
		same(t, fmt.Sprintf("%d bytes", size), impl.Seal(sample(size)), "")
	}
}

func TestPromise2SealBack(t *testing.T) {
	for _, size := range []int{0, 1, 2, 3, 4, 5, 100, 4000, impl.MaxBytes - 5, impl.MaxBytes - 4} {
		text := sample(size)
		sealed := impl.Seal(text)
		same(t, fmt.Sprintf("%d bytes and four", size), len(sealed), size+4)
		same(t, fmt.Sprintf("%d bytes back", size), impl.Unseal(sealed), impl.TextOut{Text: text})
	}
	twice := impl.Seal(impl.Seal("ab"))
	same(t, "sealed twice", impl.Unseal(impl.Unseal(twice).Text), impl.TextOut{Text: "ab"})
}

func turned(text string, at int, by byte) string {
	out := []byte(text)
	out[at] ^= by
	return string(out)
}

func TestPromise2Turned(t *testing.T) {
	wrong := impl.TextOut{Code: impl.ErrSum}
	for _, text := range []string{"", "a", "ab", "123456789", sample(40)} {
		sealed := impl.Seal(text)
		for at := range len(sealed) {
			for by := 1; by < 256; by++ {
				same(t, fmt.Sprintf("%q, byte %d turned by %d", text, at, by), impl.Unseal(turned(sealed, at, byte(by))), wrong)
			}
		}
	}
	long := impl.Seal(sample(impl.MaxBytes - 4))
	for _, at := range []int{0, 1, 4000, 7995, 7996, 7997, 7998, 7999} {
		same(t, fmt.Sprintf("the longest, byte %d turned", at), impl.Unseal(turned(long, at, 1)), wrong)
	}
}

func TestPromise2UnsealFaults(t *testing.T) {
	for _, text := range []string{"", "a", "ab", "abc", "\x00\x00\x00"} {
		same(t, fmt.Sprintf("Unseal(%q)", text), impl.Unseal(text), impl.TextOut{Code: impl.ErrShort})
	}
	for _, text := range []string{"abcd", "\xff\xff\xff\xff", "a\xe8\xb7\xbe\x43", "a\x00\x00\x00\x00", "\x43\xbe\xb7\xe8a", sample(impl.MaxBytes)} {
		same(t, fmt.Sprintf("%.10q of %d bytes", text, len(text)), impl.Unseal(text), impl.TextOut{Code: impl.ErrSum})
	}
	sealed := impl.Seal("abcdef")
	for cut := 4; cut < len(sealed); cut++ {
		same(t, fmt.Sprintf("cut at %d", cut), impl.Unseal(sealed[:cut]), impl.TextOut{Code: impl.ErrSum})
	}
	body := sample(impl.MaxBytes - 3)
	crc := crcOf(body)
	long := body + string([]byte{byte(crc), byte(crc >> 8), byte(crc >> 16), byte(crc >> 24)})
	for _, text := range []string{long, tooLong(), strings.Repeat("\x00", 20000)} {
		same(t, fmt.Sprintf("%d bytes", len(text)), impl.Unseal(text), impl.TextOut{Code: impl.ErrSize})
	}
}

func TestNothingIsKept(t *testing.T) {
	for range 3 {
		same(t, "GetNum", impl.GetNum("\x80\x01", 0), impl.NumOut{N: 64, At: 2})
		same(t, "GetNum wrong", impl.GetNum("\x80\x00", 0), impl.NumOut{Code: impl.ErrSyntax})
		same(t, "GetText", impl.GetText("\x02a", 0), impl.TextOut{Text: "a", At: 2})
		same(t, "Crc", impl.Crc("123456789"), int64(3421780262))
		same(t, "Unseal", impl.Unseal(impl.Seal("ab")), impl.TextOut{Text: "ab"})
		same(t, "Unseal wrong", impl.Unseal("abcd"), impl.TextOut{Code: impl.ErrSum})
	}
}
