package tests

import (
	"regexp"
	"slices"
	"strconv"
	"strings"
	"testing"

	"loop.example/g00561/impl"
)

var (
	strictNum   = regexp.MustCompile(`^(0|-?[1-9][0-9]*)`)
	strictName  = regexp.MustCompile(`^[a-z][a-z0-9_]{0,19}`)
	strictHas   = regexp.MustCompile(`^has\(([a-z][a-z0-9_]{0,19}),([1-9]|1[0-9]|20)\)`)
	strictKnown = regexp.MustCompile(`^known\(([a-z][a-z0-9_]{0,19})\)`)
	strictSign  = regexp.MustCompile(`^ (\+|-|\*|=|<|<=|&|\|) `)
)

func strictLeaf(text string) (node, string, bool) {
	if m := strictHas.FindStringSubmatch(text); m != nil {
		code, _ := strconv.ParseInt(m[2], 10, 64)
		return has(m[1], code), text[len(m[0]):], true
	}
	if m := strictKnown.FindStringSubmatch(text); m != nil {
		return known(m[1]), text[len(m[0]):], true
	}
	if m := strictNum.FindString(text); m != "" {
		n, err := strconv.ParseInt(m, 10, 64)
		return num(n), text[len(m):], err == nil && n >= -mostNum && n <= mostNum
	}
	m := strictName.FindString(text)
	return field(m), text[len(m):], m != ""
}

// strict reads what stands at the head of a text, and tells what is left behind it.
func strict(text string) (node, string, bool) {
	if rest, ok := strings.CutPrefix(text, "!"); ok {
		in, rest, ok := strict(rest)
		return not(in), rest, ok
	}
	rest, ok := strings.CutPrefix(text, "(")
	if !ok {
		return strictLeaf(text)
	}
	first, rest, ok := strict(rest)
	m := strictSign.FindStringSubmatch(rest)
	if !ok || m == nil {
		return node{}, "", false
	}
	second, rest, ok := strict(rest[len(m[0]):])
	if !ok || !strings.HasPrefix(rest, ")") {
		return node{}, "", false
	}
	return two(opsOfTwo[slices.Index(signsOfTwo, m[1])], first, second), rest[1:], true
}

// checkStrictly counts what is read: 1 or 0.
func checkStrictly(t *testing.T, text string) int {
	t.Helper()
	n, rest, ok := strict(text)
	if ok && rest == "" && n.right() {
		checkExprRead(t, text, n.parts())
		return 1
	}
	checkExprNotRead(t, text, impl.ErrSyntax)
	return 0
}
