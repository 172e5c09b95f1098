package impl

import (
	"errors"
	"strconv"
)

// Constants, see chapter 1.
const (
	OK        = 0
	ErrForm   = 1
	ErrSize   = 2
	ErrSyntax = 3
	ErrShort  = 4
	ErrSum    = 5
	ErrNone   = 6
	ErrThere  = 7
	ErrRange  = 8
	ErrFull   = 9
	ErrState  = 10
	ErrType   = 11
	ErrOver   = 12
	MaxBytes  = 8000
	MaxList   = 400
	MaxTime   = 1000000
)

// Of the forms that are written in bytes, see chapter 2.
const (
	maxNumBytes = 10
	maxName     = 20
	sumBytes    = 4
	crcBits     = 0xEDB88320
	crcMost     = 1<<32 - 1
)

// NumOut is a thing of chapter 2.
type NumOut struct {
	N    int64
	At   int64
	Code int64
}

// TextOut is a thing of chapter 2.
type TextOut struct {
	Text string
	At   int64
	Code int64
}

// fault is why something is refused; its code is what the face tells.
type fault struct {
	code int64
}

func (f fault) Error() string {
	return "fault " + strconv.FormatInt(f.code, 10)
}

func codeOf(err error) int64 {
	var f fault
	if errors.As(err, &f) {
		return f.code
	}
	return OK
}

// laid copies even a single text, for an answer shares no memory with what was handed in.
func laid(texts ...string) string {
	size := 0
	for _, t := range texts {
		size += len(t)
	}
	out := make([]byte, size)
	end := 0
	for _, t := range texts {
		end += copy(out[end:], t)
	}
	return string(out)
}

// folded has numbers near 0 become small ones, whatever their sign, so that they need few bytes.
func folded(n int64) uint64 {
	if n < 0 {
		return ^(uint64(n) << 1)
	}
	return uint64(n) << 1
}

func unfolded(u uint64) int64 {
	if u&1 == 1 {
		return int64(^(u >> 1))
	}
	return int64(u >> 1)
}

// PutNum: see chapter 2.
func PutNum(n int64) string {
	u := folded(n)
	var out []byte
	for u >= 128 {
		out = append(out, byte(u&127)+128)
		u >>= 7
	}
	return string(append(out, byte(u)))
}

// restAt looks for the faults that are named ahead of those of what stands there.
func restAt(text string, at int64) (string, error) {
	switch {
	case len(text) > MaxBytes:
		return "", fault{ErrSize}
	case at < 0:
		return "", fault{ErrForm}
	case at > int64(len(text)):
		return "", fault{ErrShort}
	}
	return text[at:], nil
}

// firstNum tells also how many bytes the number has.
func firstNum(rest string) (int64, int64, error) {
	var u uint64
	var b byte
	count := 0
	code := int64(ErrShort)
more:
	if count == len(rest) {
		goto wrong
	}
	b = rest[count]
	// The tenth byte has room for the last of 64 bits alone, and none may follow it.
	if count == maxNumBytes-1 && b > 1 {
		code = ErrSyntax
		goto wrong
	}
	u |= uint64(b&127) << (7 * count)
	count++
	if b >= 128 {
		goto more
	}
	goto last
last:
	// A nought at the end is needed only where it is all there is.
	if b == 0 && count > 1 {
		code = ErrSyntax
		goto wrong
	}
	return unfolded(u), int64(count), nil
wrong:
	return 0, 0, fault{code}
}

// readNum tells also the place behind the number.
func readNum(text string, at int64) (int64, int64, error) {
	rest, err := restAt(text, at)
	if err != nil {
		return 0, 0, err
	}
	n, count, err := firstNum(rest)
	if err != nil {
		return 0, 0, err
	}
	return n, at + count, nil
}

// readText tells also the place behind the text.
func readText(text string, at int64) (string, int64, error) {
	size, from, err := readNum(text, at)
	if err != nil {
		return "", 0, err
	}
	if size < 0 || size > MaxBytes {
		return "", 0, fault{ErrSyntax}
	}
	end := from + size
	if end > int64(len(text)) {
		return "", 0, fault{ErrShort}
	}
	return laid(text[from:end]), end, nil
}

// GetNum: see chapter 2.
func GetNum(text string, at int64) NumOut {
	n, end, err := readNum(text, at)
	return NumOut{N: n, At: end, Code: codeOf(err)}
}

// PutText: see chapter 2.
func PutText(t string) string {
	if len(t) > MaxBytes {
		return ""
	}
	return laid(PutNum(int64(len(t))), t)
}

// GetText: see chapter 2.
func GetText(text string, at int64) TextOut {
	t, end, err := readText(text, at)
	return TextOut{Text: t, At: end, Code: codeOf(err)}
}

func isLetter(b byte) bool {
	return b >= 'a' && b <= 'z'
}

func isDigit(b byte) bool {
	return b >= '0' && b <= '9'
}

// NameRight: see chapter 2.
func NameRight(t string) bool {
	if len(t) < 1 || len(t) > maxName || !isLetter(t[0]) {
		return false
	}
	for i := 1; i < len(t); i++ {
		if !isLetter(t[i]) && !isDigit(t[i]) && t[i] != '_' {
			return false
		}
	}
	return true
}

// shifted is the register behind one more byte.
func shifted(register uint32, b byte) uint32 {
	register ^= uint32(b)
	for range 8 {
		low := register & 1
		register >>= 1
		if low == 1 {
			register ^= crcBits
		}
	}
	return register
}

// Crc: see chapter 2.
func Crc(text string) int64 {
	// The CRC of the empty text is 0: turned back it is the register at its beginning.
	return CrcMore(0, text)
}

// CrcMore: see chapter 2.
func CrcMore(crc int64, text string) int64 {
	if len(text) > MaxBytes || crc < 0 || crc > crcMost {
		return 0
	}
	register := ^uint32(crc)
	for i := 0; i < len(text); i++ {
		register = shifted(register, text[i])
	}
	return int64(^register)
}

func sumOf(text string) string {
	crc := Crc(text)
	var out [sumBytes]byte
	for i := range out {
		out[i] = byte(crc >> (8 * i))
	}
	return string(out[:])
}

// Seal: see chapter 2.
func Seal(text string) string {
	if len(text) > MaxBytes-sumBytes {
		return ""
	}
	return laid(text, sumOf(text))
}

func unsealed(text string) (string, error) {
	if len(text) > MaxBytes {
		return "", fault{ErrSize}
	}
	if len(text) < sumBytes {
		return "", fault{ErrShort}
	}
	inner := text[:len(text)-sumBytes]
	if Seal(inner) != text {
		return "", fault{ErrSum}
	}
	return laid(inner), nil
}

// Unseal: see chapter 2.
func Unseal(text string) TextOut {
	t, err := unsealed(text)
	return TextOut{Text: t, Code: codeOf(err)}
}
