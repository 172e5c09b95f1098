package tests

import (
	"fmt"
	"strings"
	"testing"
	"unsafe"

	"loop.example/g00561/impl"
)

func same[T comparable](t *testing.T, what string, got, want T) {
	t.Helper()
	if got != want {
		t.Errorf("%s: got %s, want %s", what, shown(got), shown(want))
	}
}

// shown keeps what a failing test prints short and readable, whatever bytes a text has.
func shown(v any) string {
	const most = 200
	text := fmt.Sprintf("%#v", v)
	if len(text) > most {
		return text[:most] + ".."
	}
	return text
}

// sample has all 256 bytes in it, if it is long enough, and no short period.
func sample(size int) string {
	out := make([]byte, size)
	for i := range out {
		out[i] = byte(i*7 + i/256*13)
	}
	return string(out)
}

func tooLong() string {
	return strings.Repeat("a", impl.MaxBytes+1)
}

// overlaps tells whether two texts lie in the same memory, in part or in whole.
func overlaps(a, b string) bool {
	if len(a) == 0 || len(b) == 0 {
		return false
	}
	from := uintptr(unsafe.Pointer(unsafe.StringData(a)))
	other := uintptr(unsafe.Pointer(unsafe.StringData(b)))
	return from < other+uintptr(len(b)) && other < from+uintptr(len(a))
}
