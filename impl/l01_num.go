package impl

import (
	"strconv"
	"strings"
)

const (
	maxParsedNumber = 999999
	maxParsedInt    = 999999999999
)

// mustParse returns the integer from low to high whose FormatInt is s.
// It panics if there is none, so that a caller recovers in one place whatever is wrong with s.
func mustParse(s string, low int, high int) int {
	n, err := strconv.Atoi(s)
	if err != nil {
		panic("malformed integer")
	}
	// Atoi also accepts spellings that FormatInt never returns: "007", "-0", "+1".
	if FormatInt(n) != s {
		panic("integer not in its shortest form")
	}
	if n < low || n > high {
		panic("integer out of range")
	}
	return n
}

func FormatInt(n int) string { return strconv.Itoa(n) }

func ParseNumber(s string) (n int, ok bool) {
	defer func() { ok = recover() == nil }()
	return mustParse(s, 0, maxParsedNumber), true
}

func ParseInt(s string) (n int, ok bool) {
	defer func() { ok = recover() == nil }()
	return mustParse(s, -maxParsedInt, maxParsedInt), true
}

func SplitByte(s string, by byte) []string {
	// string(by) would be the encoding of a rune: two bytes from 128 on.
	return strings.Split(s, string([]byte{by}))
}

func Join(list []string, by string) string { return strings.Join(list, by) }
