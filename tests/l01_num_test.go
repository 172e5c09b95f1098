package tests

import (
	"encoding/binary"
	"fmt"
	"math"
	"math/rand"
	"strings"
	"testing"

	"loop.example/g00561/impl"
)

type sizedNum struct {
	n    int64
	size int
}

// edgeNums: the least and greatest numbers of each count of bytes, by their sign.
func edgeNums() []sizedNum {
	out := []sizedNum{{0, 1}, {-1, 1}, {1, 1}, {-2, 1}, {math.MinInt64, 10}, {math.MaxInt64, 10}}
	for size := 1; size <= 9; size++ {
		edge := int64(1) << (7*size - 1)
		out = append(out, sizedNum{edge - 1, size}, sizedNum{-edge, size})
		out = append(out, sizedNum{edge, size + 1}, sizedNum{-edge - 1, size + 1})
	}
	return out
}

// someNums: numbers of all sizes, the same ones each time.
func someNums() []int64 {
	r := rand.New(rand.NewSource(1))
	var out []int64
	for range 3000 {
		out = append(out, int64(r.Uint64())>>r.Intn(64))
	}
	return out
}

func TestPromise1PutNumBytes(t *testing.T) {
	known := []struct {
		n     int64
		bytes string
	}{
		{0, "\x00"}, {-1, "\x01"}, {1, "\x02"}, {-2, "\x03"}, {63, "\x7e"}, {-64, "\x7f"},
		{64, "\x80\x01"}, {-65, "\x81\x01"}, {150, "\xac\x02"}, {8191, "\xfe\x7f"}, {-8192, "\xff\x7f"},
		{8192, "\x80\x80\x01"}, {-8193, "\x81\x80\x01"}, {8000, "\x80\x7d"},
		{1 << 62, "\x80\x80\x80\x80\x80\x80\x80\x80\x80\x01"},
		{math.MaxInt64, "\xfe\xff\xff\xff\xff\xff\xff\xff\xff\x01"},
		{math.MinInt64, "\xff\xff\xff\xff\xff\xff\xff\xff\xff\x01"},
	}
	for _, k := range known {
		same(t, fmt.Sprintf("PutNum(%d)", k.n), impl.PutNum(k.n), k.bytes)
	}
	for _, e := range edgeNums() {
		same(t, fmt.Sprintf("bytes of %d", e.n), len(impl.PutNum(e.n)), e.size)
	}
	for _, n := range someNums() {
		same(t, fmt.Sprintf("PutNum(%d)", n), impl.PutNum(n), string(binary.AppendVarint(nil, n)))
	}
}

func checkNumBack(t *testing.T, n int64) {
	t.Helper()
	b := impl.PutNum(n)
	for _, ahead := range []string{"", "x", "\x80", "\xff\xff\xff"} {
		for _, behind := range []string{"", "\x00", "\x01", "\xff", "abc"} {
			from := int64(len(ahead))
			got := impl.GetNum(ahead+b+behind, from)
			want := impl.NumOut{N: n, At: from + int64(len(b))}
			same(t, fmt.Sprintf("GetNum of %q, %d of %q", ahead, n, behind), got, want)
		}
	}
}

func TestPromise1NumBack(t *testing.T) {
	for _, e := range edgeNums() {
		checkNumBack(t, e.n)
	}
	for _, n := range someNums() {
		checkNumBack(t, n)
	}
	for n := int64(-20000); n <= 20000; n++ {
		b := impl.PutNum(n)
		same(t, fmt.Sprintf("GetNum of %d", n), impl.GetNum(b, 0), impl.NumOut{N: n, At: int64(len(b))})
	}
}

func TestPromise1NumAtEnd(t *testing.T) {
	text := strings.Repeat("\x80", impl.MaxBytes-2) + "\x80\x01"
	same(t, "greatest text", impl.GetNum(text, impl.MaxBytes-2), impl.NumOut{N: 64, At: impl.MaxBytes})
	same(t, "last byte", impl.GetNum(text, impl.MaxBytes-1), impl.NumOut{N: -1, At: impl.MaxBytes})
	same(t, "behind the last byte", impl.GetNum(text, impl.MaxBytes), impl.NumOut{Code: impl.ErrShort})
}

func TestPromise1NumShort(t *testing.T) {
	short := impl.NumOut{Code: impl.ErrShort}
	for _, e := range edgeNums() {
		b := impl.PutNum(e.n)
		for cut := range len(b) {
			same(t, fmt.Sprintf("%d cut at %d", e.n, cut), impl.GetNum(b[:cut], 0), short)
			same(t, fmt.Sprintf("%d cut at %d, behind a byte", e.n, cut), impl.GetNum("\x05"+b[:cut], 1), short)
		}
	}
	for count := range 10 {
		same(t, fmt.Sprintf("%d bytes of 255", count), impl.GetNum(strings.Repeat("\xff", count), 0), short)
		same(t, fmt.Sprintf("%d bytes of 128", count), impl.GetNum(strings.Repeat("\x80", count), 0), short)
	}
	for _, at := range []int64{1, 2, 3, 8000, 8001, 1 << 32, math.MaxInt64 - 1, math.MaxInt64} {
		same(t, fmt.Sprintf("at %d of one byte", at), impl.GetNum("\x02", at), short)
		same(t, fmt.Sprintf("at %d of none", at-1), impl.GetNum("", at-1), short)
	}
}

func TestPromise1NumBelow(t *testing.T) {
	for _, at := range []int64{-1, -2, -8000, -1 << 32, math.MinInt64} {
		for _, text := range []string{"", "\x02", "\x80", "\x80\x00", strings.Repeat("\xff", 10)} {
			same(t, fmt.Sprintf("GetNum(%q, %d)", text, at), impl.GetNum(text, at), impl.NumOut{Code: impl.ErrForm})
			same(t, fmt.Sprintf("GetText(%q, %d)", text, at), impl.GetText(text, at), impl.TextOut{Code: impl.ErrForm})
		}
	}
}

func TestPromise1NumTenthByte(t *testing.T) {
	for _, nine := range []string{strings.Repeat("\xff", 9), strings.Repeat("\x80", 9), "\x81\x80\xff\x80\x80\x9a\x80\x80\x80"} {
		for b := range 256 {
			for _, behind := range []string{"", "\x00", "\x01", "\xff"} {
				text := nine + string([]byte{byte(b)}) + behind
				want := impl.NumOut{Code: impl.ErrSyntax}
				if b == 1 {
					n, size := binary.Varint([]byte(text))
					want = impl.NumOut{N: n, At: int64(size)}
				}
				same(t, fmt.Sprintf("GetNum(%q, 0)", text), impl.GetNum(text, 0), want)
			}
		}
	}
}

func TestPromise1NumNeedless(t *testing.T) {
	wrong := impl.NumOut{Code: impl.ErrSyntax}
	for count := 1; count <= 9; count++ {
		for _, b := range []string{"\x80", "\x81", "\xff"} {
			text := strings.Repeat(b, count) + "\x00"
			same(t, fmt.Sprintf("GetNum(%q, 0)", text), impl.GetNum(text, 0), wrong)
			same(t, fmt.Sprintf("GetNum(%q, 2)", "ab"+text), impl.GetNum("ab"+text+"\x01", 2), wrong)
		}
	}
	same(t, "a nought alone", impl.GetNum("\x00", 0), impl.NumOut{At: 1})
	same(t, "noughts within", impl.GetNum("\x80\x80\x01", 0), impl.NumOut{N: 8192, At: 3})
}

func TestPromise1NumTooLong(t *testing.T) {
	for _, at := range []int64{0, 1, -1, 8000, 8001, 9000, math.MinInt64, math.MaxInt64} {
		same(t, fmt.Sprintf("GetNum at %d", at), impl.GetNum(tooLong(), at), impl.NumOut{Code: impl.ErrSize})
		same(t, fmt.Sprintf("GetText at %d", at), impl.GetText(tooLong(), at), impl.TextOut{Code: impl.ErrSize})
	}
	noughts := strings.Repeat("\x00", impl.MaxBytes)
	same(t, "MaxBytes bytes", impl.GetNum(noughts, 7), impl.NumOut{At: 8})
	same(t, "one byte more", impl.GetNum(noughts+"\x00", 7), impl.NumOut{Code: impl.ErrSize})
	ends := strings.Repeat("\xff", impl.MaxBytes)
	same(t, "MaxBytes bytes, at their end", impl.GetNum(ends, impl.MaxBytes-9), impl.NumOut{Code: impl.ErrShort})
	same(t, "MaxBytes bytes, ten ahead of their end", impl.GetNum(ends, impl.MaxBytes-10), impl.NumOut{Code: impl.ErrSyntax})
}
