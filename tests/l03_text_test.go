package tests

import (
	"fmt"
	"math/rand"
	"regexp"
	"strings"
	"testing"

	"loop.example/g00561/impl"
)

func checkRead(t *testing.T, text string, want impl.Value) {
	t.Helper()
	got := impl.ValueRead(text)
	same(t, fmt.Sprintf("the code of %.60q", text), got.Code, int64(impl.OK))
	sameValue(t, fmt.Sprintf("%.60q", text), got.Value, want)
}

func checkNotRead(t *testing.T, text string, code int64) {
	t.Helper()
	got := impl.ValueRead(text)
	same(t, fmt.Sprintf("the code of %.60q", text), got.Code, code)
	sameValue(t, fmt.Sprintf("%.60q", text), got.Value, nothing())
}

func TestPromise6Text(t *testing.T) {
	for _, w := range allWritten() {
		same(t, shown(w.value), impl.ValueText(w.value), w.text)
	}
	for _, v := range wrongValues() {
		same(t, shown(v), impl.ValueText(v), "")
	}
}

func TestPromise6Read(t *testing.T) {
	for _, w := range allWritten() {
		checkRead(t, w.text, w.value)
	}
}

func TestPromise6Back(t *testing.T) {
	r := rand.New(rand.NewSource(6))
	plain := plainBytes()
	for range 20000 {
		v := nothing()
		switch r.Intn(4) {
		case 0:
			v = integer((r.Int63() >> r.Intn(63)) % (mostInt + 1) * int64(1-2*r.Intn(2)))
		case 1:
			v = choice(1 + r.Int63n(20))
		case 2:
			v = choices()
			for _, code := range allCodes() {
				if r.Intn(3) == 0 {
					v.Codes = append(v.Codes, code)
				}
			}
		case 3:
			v = words("")
			for range r.Intn(41) {
				v.Text += string(plain[r.Intn(len(plain))>>r.Intn(6)])
			}
		}
		same(t, shown(v)+" is right", impl.ValueRight(v), true)
		checkRead(t, impl.ValueText(v), v)
	}
}

func TestPromise6ReadWrong(t *testing.T) {
	for _, text := range []string{
		"00", "01", "007", "-01", "-00", "-0", "+1", "+0", "+", "-", "--1", "-+1", "1-", "1+", "1.0", ".", "1e3", "0x1", "1_0", "a", "1a", "a1", "'1'", "１",
		"1000000001", "-1000000001", "2000000000", "10000000000", "4294967297", "9223372036854775807", "-9223372036854775808", "9223372036854775808", "18446744073709551617",
		"#", "#0", "#21", "#01", "#00", "#-1", "#+1", "#-0", "##1", "#1#", "#1a", "#a", "1#", "#100", "#4294967297", "#18446744073709551617", "#{1}", "#1,2", "#\"1\"",
		"{", "}", "{1", "1}", "{1,}", "{,1}", "{,}", "{,,}", "{1,,2}", "{2,1}", "{1,1}", "{0}", "{21}", "{0,1}", "{20,21}", "{01}", "{1,02}", "{+1}", "{-1}", "{-0}", "{a}", "{#1}", "{1}}", "{{1}", "{{1}}", "{1}{2}", "{}}", "{{}", "{{}}", "{1;2}", "{1,2", "{\"1\"}", "{DK}", "(1)", "[1]", "{18446744073709551617}", "{1,2,2}", "{1,3,2}",
		`"`, `"a`, `a"`, `"""`, `"a"b"`, `"a""`, `""a"`, `"""""`, `"a""b`, `"a"""b"`, `""""a`, `'a'`, `a`, `"\""`, `"a""""`, `"" ""`,
		"D", "K", "DKK", "DDK", "dk", "Dk", "dK", "KD", "R", "F", "RFF", "RRF", "rf", "Rf", "rF", "FR", "DKRF", "RFDK", "DK\n", "RF\x00", "none", "NA", "#DK", "{RF}",
		"\x00", "\n", "\t", "\xff", "é",
	} {
		checkNotRead(t, text, impl.ErrSyntax)
	}
}

func TestPromise6ReadBesides(t *testing.T) {
	behind := []string{" ", "\n", "\x00", "\"", "x", ",", "}", "#", "-", "DK", "é"}
	for _, w := range allWritten() {
		if w.text == "" {
			continue
		}
		for _, b := range behind {
			if strings.HasPrefix(w.text, `"`) && b == `"` {
				continue
			}
			checkNotRead(t, w.text+b, impl.ErrSyntax)
		}
		for cut := 1; cut < len(w.text); cut++ {
			if strings.HasPrefix(w.text, `"`) {
				break
			}
			checkNotRead(t, w.text[:cut]+" "+w.text[cut:], impl.ErrSyntax)
			checkNotRead(t, w.text[:cut]+"\x00"+w.text[cut:], impl.ErrSyntax)
		}
		checkNotRead(t, " "+w.text, impl.ErrSyntax)
		checkNotRead(t, "x"+w.text, impl.ErrSyntax)
	}
}

func TestPromise6ReadTexts(t *testing.T) {
	for b := range 256 {
		one := string([]byte{byte(b)})
		switch {
		case b == '"':
			checkNotRead(t, `"a`+one+`b"`, impl.ErrSyntax)
		case b >= 32 && b <= 126:
			checkRead(t, `"a`+one+`b"`, words("a"+one+"b"))
			checkRead(t, `"`+strings.Repeat(one, 40)+`"`, words(strings.Repeat(one, 40)))
			checkNotRead(t, `"`+strings.Repeat(one, 41)+`"`, impl.ErrSyntax)
		default:
			checkNotRead(t, `"`+one+`"`, impl.ErrSyntax)
			checkNotRead(t, `"a`+one+`b"`, impl.ErrSyntax)
		}
	}
	// Of the bytes of a text that is written those count that it has, not those that stand for them.
	for quotes := range 101 {
		text := `"` + strings.Repeat(`"`, quotes) + `"`
		if quotes%2 == 0 && quotes <= 80 {
			checkRead(t, text, words(strings.Repeat(`"`, quotes/2)))
		} else {
			checkNotRead(t, text, impl.ErrSyntax)
		}
	}
}

func TestPromise6ReadLong(t *testing.T) {
	for _, one := range []string{"1", "9", "0", "-", "#", "{", "}", ",", `"`, "a", " ", "{1,", "\x00"} {
		text := strings.Repeat(one, impl.MaxBytes)[:impl.MaxBytes]
		checkNotRead(t, text, impl.ErrSyntax)
		checkNotRead(t, text+one[:1], impl.ErrSize)
		checkNotRead(t, text+text, impl.ErrSize)
	}
	for _, size := range []int{11, 18, 19, 20, 21, 40, 300, impl.MaxBytes} {
		checkNotRead(t, strings.Repeat("1", size), impl.ErrSyntax)
		checkNotRead(t, "-"+strings.Repeat("1", size-1), impl.ErrSyntax)
		checkNotRead(t, "#"+strings.Repeat("1", size-1), impl.ErrSyntax)
		checkNotRead(t, strings.Repeat("0", size-1)+"1", impl.ErrSyntax)
		checkNotRead(t, "{"+strings.Repeat("1", size-2)+"}", impl.ErrSyntax)
		checkNotRead(t, "{"+strings.Repeat("1,", (size-2)/2)+"}", impl.ErrSyntax)
	}
	checkNotRead(t, strings.Repeat(" ", impl.MaxBytes)+"1", impl.ErrSize)
	checkNotRead(t, `"`+strings.Repeat("x", impl.MaxBytes-1)+`"`, impl.ErrSize)
}

// TestPromise6AllShort reads every text of up to five of these bytes, and holds it against the forms of the document.
func TestPromise6AllShort(t *testing.T) {
	const bytes = "0123-+#{},\" DKa"
	form := regexp.MustCompile(`^(|DK|RF|0|-?[1-9][0-9]*|#([1-9]|1[0-9]|20)|\{(([1-9]|1[0-9]|20)(,([1-9]|1[0-9]|20))*)?\}|"([^"]|"")*")$`)
	text := make([]byte, 0, 5)
	read := 0
	var all func()
	all = func() {
		got := impl.ValueRead(string(text))
		if got.Code == impl.OK {
			read++
			same(t, fmt.Sprintf("the form of %q", text), form.Match(text) && codesRise(got.Value.Codes), true)
			same(t, fmt.Sprintf("%q is right", text), impl.ValueRight(got.Value), true)
			same(t, fmt.Sprintf("the text of %q", text), impl.ValueText(got.Value), string(text))
		} else {
			same(t, fmt.Sprintf("the code of %q", text), got.Code, int64(impl.ErrSyntax))
			same(t, fmt.Sprintf("the form of %q", text), form.Match(text) && !setFalls(string(text)), false)
			sameValue(t, fmt.Sprintf("%q", text), got.Value, nothing())
		}
		if len(text) == cap(text) || t.Failed() {
			return
		}
		for i := range len(bytes) {
			text = append(text, bytes[i])
			all()
			text = text[:len(text)-1]
		}
	}
	all()
	same(t, "many are read", read > 4000, true)
}

func codesRise(codes []int64) bool {
	for i := 1; i < len(codes); i++ {
		if codes[i-1] >= codes[i] {
			return false
		}
	}
	return true
}

// setFalls tells it of the written sets of two codes, the most that five bytes have room for.
func setFalls(text string) bool {
	var a, b int
	count, _ := fmt.Sscanf(text, "{%d,%d}", &a, &b)
	return count == 2 && a >= b
}
