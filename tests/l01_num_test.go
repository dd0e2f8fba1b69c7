package tests

import (
	"math"
	"math/big"
	"regexp"
	"slices"
	"strings"
	"testing"

	"loop.example/g00510/impl"
)

// Promise 1: integers are parsed from their decimal representation, and splitting and joining are inverse.

func TestFormatIntKnown(t *testing.T) {
	for want, n := range map[string]int{
		"0": 0, "7": 7, "-5": -5, "10": 10, "-10": -10, "1000000": 1000000,
		"9223372036854775807":  math.MaxInt,
		"9223372036854775806":  math.MaxInt - 1,
		"-9223372036854775808": math.MinInt,
		"-9223372036854775807": math.MinInt + 1,
	} {
		if got := impl.FormatInt(n); got != want {
			t.Errorf("FormatInt(%d) = %q, want %q", n, got, want)
		}
	}
}

func TestFormatIntAgreesWithBig(t *testing.T) {
	check := func(n int) {
		if got, want := impl.FormatInt(n), big.NewInt(int64(n)).String(); got != want {
			t.Errorf("FormatInt(%d) = %q, want %q", n, got, want)
		}
	}
	for n := -2000; n <= 2000; n++ {
		check(n)
	}
	for shift := range 64 {
		for by := -2; by <= 2; by++ {
			check(1<<shift + by)
			check(-(1 << shift) + by)
		}
	}
	for power := 1; power <= math.MaxInt/10; power *= 10 {
		for by := -1; by <= 1; by++ {
			check(power + by)
			check(-power + by)
		}
	}
}

type parser struct {
	name  string
	parse func(string) (int, bool)
}

func parsers() []parser {
	return []parser{{"ParseNumber", impl.ParseNumber}, {"ParseInt", impl.ParseInt}}
}

func (p parser) accepts(t *testing.T, s string, want int) {
	t.Helper()
	if n, ok := p.parse(s); !ok || n != want {
		t.Errorf("%s(%q) = %d, %v, want %d, true", p.name, s, n, ok, want)
	}
}

func (p parser) rejects(t *testing.T, s string) {
	t.Helper()
	if n, ok := p.parse(s); ok || n != 0 {
		t.Errorf("%s(%q) = %d, %v, want 0, false", p.name, s, n, ok)
	}
}

func TestParseNumberInvertsFormatInt(t *testing.T) {
	p := parser{"ParseNumber", impl.ParseNumber}
	for n := range 1000000 {
		p.accepts(t, impl.FormatInt(n), n)
	}
	for _, n := range []int{-1, -999999, 1000000, 1000001, 999999999999, math.MaxInt, math.MinInt} {
		p.rejects(t, impl.FormatInt(n))
	}
}

func TestParseIntInvertsFormatInt(t *testing.T) {
	p := parser{"ParseInt", impl.ParseInt}
	const limit = 999999999999
	for n := -100000; n <= 100000; n++ {
		p.accepts(t, impl.FormatInt(n), n)
	}
	for power := 1; power <= limit; power *= 10 {
		for by := -1; by <= 1; by++ {
			p.accepts(t, impl.FormatInt(power+by), power+by)
			p.accepts(t, impl.FormatInt(-power+by), -power+by)
		}
	}
	for _, n := range []int{limit, limit - 1, -limit, -limit + 1} {
		p.accepts(t, impl.FormatInt(n), n)
	}
	for _, n := range []int{limit + 1, limit + 2, -limit - 1, -limit - 2, math.MaxInt, math.MaxInt - 1, math.MinInt, math.MinInt + 1} {
		p.rejects(t, impl.FormatInt(n))
	}
}

func TestParseBounds(t *testing.T) {
	number := parser{"ParseNumber", impl.ParseNumber}
	number.accepts(t, "0", 0)
	number.accepts(t, "999998", 999998)
	number.accepts(t, "999999", 999999)
	number.rejects(t, "1000000")
	number.rejects(t, "-1")

	integer := parser{"ParseInt", impl.ParseInt}
	integer.accepts(t, "-1", -1)
	integer.accepts(t, "1000000", 1000000)
	integer.accepts(t, "999999999998", 999999999998)
	integer.accepts(t, "999999999999", 999999999999)
	integer.accepts(t, "-999999999998", -999999999998)
	integer.accepts(t, "-999999999999", -999999999999)
	integer.rejects(t, "1000000000000")
	integer.rejects(t, "-1000000000000")
}

func TestParseRejectsMalformed(t *testing.T) {
	malformed := []string{
		"", "-", "+", "--1", "-+1", "+-1", "1-", "1-1", "-0", "+0", "+1", "00", "01", "007", "-01", "-007", "000000000000",
		" ", " 1", "1 ", "1 2", "\t1", "1\n", "1\x00", "\x001", "1a", "a1", "a", "12x", "0x1", "0b1", "0o1", "1_0", "1e3", "1.0", "1.", ".1", "1,000",
		"\xff", "1\xff", "\u0661", "\uff11", "\u22121",
		"9223372036854775808", "-9223372036854775809", "18446744073709551616", "18446744073709551617", "-18446744073709551615",
		"99999999999999999999", "-99999999999999999999",
		strings.Repeat("1", 1000), "-" + strings.Repeat("9", 1000), strings.Repeat("0", 1000), strings.Repeat("0", 1000) + "1", strings.Repeat("-", 1000),
	}
	for _, p := range parsers() {
		for _, s := range malformed {
			p.rejects(t, s)
		}
	}
}

// stringsOver returns all strings of at most size bytes of the alphabet.
func stringsOver(alphabet string, size int) []string {
	all := []string{""}
	from := 0
	for range size {
		to := len(all)
		for _, s := range all[from:to] {
			for i := range len(alphabet) {
				all = append(all, s+alphabet[i:i+1])
			}
		}
		from = to
	}
	return all
}

func TestParseAllShortStrings(t *testing.T) {
	number := regexp.MustCompile(`^(0|[1-9][0-9]{0,5})\z`)
	integer := regexp.MustCompile(`^(0|-?[1-9][0-9]{0,11})\z`)
	for _, s := range stringsOver("019-+ x", 7) {
		value, _ := new(big.Int).SetString(s, 10)
		for i, form := range []*regexp.Regexp{number, integer} {
			p := parsers()[i]
			if form.MatchString(s) {
				p.accepts(t, s, int(value.Int64()))
			} else {
				p.rejects(t, s)
			}
		}
	}
}

func TestParseOneBytes(t *testing.T) {
	for _, p := range parsers() {
		for b := range 256 {
			s := string([]byte{byte(b)})
			if '0' <= b && b <= '9' {
				p.accepts(t, s, b-'0')
				p.accepts(t, "1"+s, 10+b-'0')
			} else {
				p.rejects(t, s)
				p.rejects(t, "1"+s)
				p.rejects(t, s+"1"+s)
			}
		}
	}
}

func TestSplitByteKnown(t *testing.T) {
	for _, c := range []struct {
		s    string
		by   byte
		want []string
	}{
		{"", ',', []string{""}},
		{"", 0, []string{""}},
		{",", ',', []string{"", ""}},
		{",,", ',', []string{"", "", ""}},
		{"a", ',', []string{"a"}},
		{"abc", ',', []string{"abc"}},
		{"a,b", ',', []string{"a", "b"}},
		{",a", ',', []string{"", "a"}},
		{"a,", ',', []string{"a", ""}},
		{"a,,b", ',', []string{"a", "", "b"}},
		{",a,,b,", ',', []string{"", "a", "", "b", ""}},
		{"aaa", 'a', []string{"", "", "", ""}},
		{"a b\nc", '\n', []string{"a b", "c"}},
		{"a\x00b", 0, []string{"a", "b"}},
		{"a\xffb", 0xff, []string{"a", "b"}},
		{"\u00e9", 0xa9, []string{"\xc3", ""}},
		{"\u00e9", 0xe9, []string{"\u00e9"}},
		{"\u20ac\u20ac", 0x82, []string{"\xe2", "\xac\xe2", "\xac"}},
	} {
		if got := impl.SplitByte(c.s, c.by); !slices.Equal(got, c.want) {
			t.Errorf("SplitByte(%q, %q) = %q, want %q", c.s, c.by, got, c.want)
		}
	}
}

func TestJoinKnown(t *testing.T) {
	for _, c := range []struct {
		list []string
		by   string
		want string
	}{
		{nil, ",", ""},
		{[]string{}, ",", ""},
		{[]string{}, "", ""},
		{[]string{""}, ",", ""},
		{[]string{"a"}, ",", "a"},
		{[]string{"", ""}, ",", ","},
		{[]string{"a", "b"}, "-", "a-b"},
		{[]string{"a", "b", "c"}, ", ", "a, b, c"},
		{[]string{"a", "b", "c"}, "", "abc"},
		{[]string{"", "a", "", "b", ""}, ",", ",a,,b,"},
		{[]string{"a,b", "c"}, ",", "a,b,c"},
		{[]string{"\xff", "\x00"}, "\x80", "\xff\x80\x00"},
	} {
		if got := impl.Join(c.list, c.by); got != c.want {
			t.Errorf("Join(%q, %q) = %q, want %q", c.list, c.by, got, c.want)
		}
	}
}

func TestJoinInvertsSplitByte(t *testing.T) {
	all := stringsOver("a,\x00\xc3\xa9", 5)
	for _, by := range []byte{'a', ',', 0, 0xc3, 0xa9, 'z', 0xff} {
		for _, s := range all {
			checkSplit(t, s, by)
		}
	}
}

func TestSplitByteEverySeparator(t *testing.T) {
	every := make([]byte, 256)
	for b := range every {
		every[b] = byte(b)
	}
	s := string(every) + string(every) + "\u00e9\u20ac\U0001f600"
	for b := range every {
		checkSplit(t, s, byte(b))
		checkSplit(t, string([]byte{byte(b)}), byte(b))
	}
}

// checkSplit checks what determines the parts: their number, that they do not contain by, and that joining restores s.
func checkSplit(t *testing.T, s string, by byte) {
	t.Helper()
	sep := string([]byte{by})
	parts := impl.SplitByte(s, by)
	if len(parts) != strings.Count(s, sep)+1 {
		t.Errorf("SplitByte(%q, %q) has %d parts", s, by, len(parts))
	}
	for _, part := range parts {
		if strings.IndexByte(part, by) >= 0 {
			t.Errorf("SplitByte(%q, %q) = %q: a part contains the separator", s, by, parts)
		}
	}
	if got := impl.Join(parts, sep); got != s {
		t.Errorf("Join(SplitByte(%q, %q)) = %q", s, by, got)
	}
}

func TestSplitByteInvertsJoin(t *testing.T) {
	elements := stringsOver("a\xc3\xa9", 2)
	for _, by := range []byte{',', 0, 0xff} {
		sep := string([]byte{by})
		for _, a := range elements {
			for _, b := range elements {
				for _, list := range [][]string{{a}, {a, b}, {b, "", a}, {"", a, b, ""}} {
					if got := impl.SplitByte(impl.Join(list, sep), by); !slices.Equal(got, list) {
						t.Errorf("SplitByte(Join(%q, %q)) = %q", list, sep, got)
					}
				}
			}
		}
	}
}

// Promise 48: every function is total and does not modify its arguments.

func TestJoinKeepsItsList(t *testing.T) {
	for used := range 4 {
		whole := []string{"a", "", "c", "spare"}
		impl.Join(whole[:used], ", ")
		if !slices.Equal(whole, []string{"a", "", "c", "spare"}) {
			t.Errorf("Join of %d elements changed its list: %q", used, whole)
		}
	}
}

func TestSplitByteResultsAreIndependent(t *testing.T) {
	for _, s := range []string{"", "a", "a,b"} {
		first := impl.SplitByte(s, ',')
		want := slices.Clone(first)
		clear(first[:cap(first)])
		if got := impl.SplitByte(s, ','); !slices.Equal(got, want) {
			t.Errorf("SplitByte(%q) = %q after a change of an earlier result, want %q", s, got, want)
		}
	}
}
