package tests

import (
	"math"
	"math/rand"
	"regexp"
	"slices"
	"strconv"
	"strings"
	"testing"

	"loop.example/g00510/impl"
)

// Promise 9: tokens are parsed from their formatted list.

func everySymbol() []string { return strings.Fields("( ) [ ] , + - * < == =") }

// tokenOf returns the token that is spelled in this way. Its first byte alone determines the kind.
func tokenOf(word string, at int) impl.Token {
	switch first := word[0]; {
	case first == '"':
		return impl.Token{Kind: 3, Text: word[1 : len(word)-1], At: at}
	case '0' <= first && first <= '9':
		n, _ := strconv.Atoi(word)
		return impl.Token{Kind: 2, N: n, At: at}
	case 'a' <= first && first <= 'z':
		return impl.Token{Kind: 1, Text: word, At: at}
	}
	return impl.Token{Kind: 4, Text: word, At: at}
}

func checkTokens(t *testing.T, s string, want []impl.Token, wantBad int) {
	t.Helper()
	got, bad := impl.Tokenize(s)
	if bad != wantBad || !slices.Equal(got, want) {
		t.Errorf("Tokenize(%q) = %+v, %d, want %+v, %d", s, got, bad, want, wantBad)
	}
}

func checkBadAt(t *testing.T, s string, at int) {
	t.Helper()
	checkTokens(t, s, nil, at)
}

// checkMarked checks a source with bars where its tokens begin and end, or with an exclamation mark before its first
// error. A percent sign stands for each of the words.
func checkMarked(t *testing.T, marked string, words ...string) {
	t.Helper()
	for _, word := range words {
		checkMarked(t, strings.ReplaceAll(marked, "%", word))
	}
	if len(words) > 0 {
		return
	}
	if before, after, isBad := strings.Cut(marked, "!"); isBad {
		before = strings.ReplaceAll(before, "|", "")
		checkBadAt(t, before+after, len(before))
		return
	}
	var source string
	var want []impl.Token
	for _, part := range strings.Split(marked, "|") {
		if strings.Trim(part, " ") != "" {
			want = append(want, tokenOf(part, len(source)))
		}
		source += part
	}
	checkTokens(t, source, want, -1)
}

// A word extends as far as possible, whether or not it violates a rule. Where no token starts, it is a byte or a rune.
var (
	wordForm  = regexp.MustCompile(`[a-z][a-z0-9]*|[0-9]+|"[^"]*"|==|(?s:.)`)
	tokenForm = regexp.MustCompile(`\A(?:[a-z][a-z0-9]{0,7}|0|[1-9][0-9]{0,8}|1000000000|"[ !#-~]{0,20}"|==|[][()+*,<=-])\z`)
)

// tokensMeaning is what Tokenize should return.
func tokensMeaning(s string) ([]impl.Token, int) {
	if len(s) > 120 {
		return nil, 120
	}
	var list []impl.Token
	for _, place := range wordForm.FindAllStringIndex(s, -1) {
		word := s[place[0]:place[1]]
		if word == " " {
			continue
		}
		if !tokenForm.MatchString(word) || len(list) == 60 {
			return nil, place[0]
		}
		list = append(list, tokenOf(word, place[0]))
	}
	return list, -1
}

// checkMeaning returns whether s has no error.
func checkMeaning(t *testing.T, s string) bool {
	t.Helper()
	want, bad := tokensMeaning(s)
	checkTokens(t, s, want, bad)
	return bad == -1
}

func TestTokenConstants(t *testing.T) {
	got := []int{impl.MaxCode, impl.MaxTokens, impl.TokenName, impl.TokenNumber, impl.TokenText, impl.TokenSymbol}
	if !slices.Equal(got, []int{120, 60, 1, 2, 3, 4}) {
		t.Errorf("the constants are %v", got)
	}
}

func TestTokenizeKnown(t *testing.T) {
	checkTokens(t, "", nil, -1)
	checkTokens(t, `let x=12 in "a b"`, []impl.Token{
		{Kind: 1, Text: "let", At: 0}, {Kind: 1, Text: "x", At: 4}, {Kind: 4, Text: "=", At: 5}, {Kind: 2, N: 12, At: 6}, {Kind: 1, Text: "in", At: 9}, {Kind: 3, Text: "a b", At: 12},
	}, -1)
	for _, marked := range []string{
		"", " ", "  ", "a", " |a", "a| ", "  |a|  |b|   ", "0", `""`, "(", "=", "==",
		"let| |x|=|12| |in| |x|*|2", "if| |a|<|b| |then| |1| |else| |0", "for| |x| |in| |take|(|3|,| |s|)| |do| |x",
		"(|1|+|2|)|*|3|-|sum|(|[|a|,|4|]|)", "(|1| |+| |2|)| |*| |3| |-| |sum|(|[|a|,| |4|]|)",
		`where|(|"a b"|,|1|,|t|)`, `"a"|+|"b"`, "a|==|b", "a| |==| |b", "a|=|b", "a|=| |=|b", "a|[|0|]",
	} {
		checkMarked(t, marked)
	}
	for _, marked := range []string{
		"!$", "a !$", "!00", "!abcdefghi", `1 !"x`, "a+!!", "let x = !01", "a !/ b", "f(!'a')", "x !; y", "!.5", "1!.5", "a!_b", "a !{", "!\\", "a!\tb",
	} {
		checkMarked(t, marked)
	}
}

func TestTokenizeSpaces(t *testing.T) {
	for size := range 200 {
		spaces := strings.Repeat(" ", size)
		if size > 120 {
			checkBadAt(t, spaces, 120)
			continue
		}
		checkTokens(t, spaces, nil, -1)
		if size < 36 {
			for _, form := range []string{"%|let|%", "1|%|+|%", "%|==", `%|""|%`, "(|%|)", "%!$%", "a%!$", "%a %!00%"} {
				checkMarked(t, form, spaces+" ")
			}
		}
	}
	// What may be taken for a space starts no token.
	for _, s := range []string{"\t", "\n", "\r", "\v", "\f", "\x00", "\x1f", "\x7f", "\u0085", "\u00a0", "\u2003", "\u3000"} {
		for _, form := range []string{"!%", "a!%b", "a !%", " !% b", "!% ", "!%a", `""!%""`, "1!%1", "=!%="} {
			checkMarked(t, form, s)
		}
	}
}

func TestTokenizeSymbols(t *testing.T) {
	forms := []string{"%", " |%", "%| ", "a|%|b", "1|%|2", `"a"|%|"b"`, "a| |%| |b", "a|%", "%|a", "1|%", "%|1", `""|%`, `%|""`}
	for _, form := range forms {
		checkMarked(t, form, everySymbol()...)
	}
	for _, p := range everySymbol() {
		checkMarked(t, p+"| |%", everySymbol()...)
		for _, q := range everySymbol() {
			if p != "=" || q[0] != '=' {
				checkMarked(t, p+"|"+q)
				checkMarked(t, "a|"+p+"|"+q+"|1")
				checkMarked(t, q+"| |"+p+"|"+q+"| |"+p)
			}
		}
	}
	for _, marked := range []string{
		"!!=", "!>", "a!>=b", "<|!>", "1!/2", "1 !% 2", "a!&b", "a !| b", "!^1", "!~1", "!?", "!:", "a !:= b", "=!:", "a!.b", "!;", "!@a", "!#", "!`a`", "!{}", "(!}", "=!>", "-!>", "+!.",
	} {
		checkMarked(t, marked)
	}
}

func TestTokenizeEqualSigns(t *testing.T) {
	for _, marked := range []string{
		"=", "==", "==|=", "==|==", "==|==|=", "==|==|==", "=| |=", "==| |=", "=| |==", "==| |==", "=| |=| |=", "==|=| |=", "=| |==|=", "==|=| |==|=",
		"a|=|1", "a|==|1", "a|==|=|1", "a|==|==|1", "<|=", "<|==", "=|<", "==|<", "==|=|<", "=|<|=", "==|<|==", "=|-|=", `=|"="|=`, `==|"=="|==`, "=|+|==|-|==|=", "(|=|)|==", "==|=|a", "1|=|",
	} {
		checkMarked(t, marked)
	}
	for _, s := range stringsOver("= a<", 7) {
		checkMeaning(t, s)
	}
	for size := range 120 {
		var want []impl.Token
		for at := 0; at < size; at += 2 {
			want = append(want, tokenOf("=="[:min(2, size-at)], at))
		}
		checkTokens(t, strings.Repeat("=", size), want, -1)
	}
}

func TestTokenizeNumbers(t *testing.T) {
	forms := []string{"%", "+|%", "-|%", "%|+", "%|-", "1|-|%|-|1", "-|-|%", "(|%|)", "[|%|,|%|]", " |%| ", "%| |%", "%|a", "%|let", `%|"%"|%`, "=|%", "==|%|==", "a|<|%"}
	check := func(n int) {
		s := strconv.Itoa(n)
		for _, form := range forms {
			checkMarked(t, form, s)
		}
		for _, form := range []string{"!%", "a + !%", "-!%", "!%a"} {
			checkMarked(t, form, "0"+s, "00"+s, "0000000000"+s)
		}
	}
	for n := range 1200 {
		check(n)
	}
	for _, n := range []int{1000000000, 999999999, 999999998, 100000000, 123456789, 987654321, 536870912} {
		check(n)
	}
}

func TestTokenizeNumbersThatViolateARule(t *testing.T) {
	large := []string{
		"1000000001", "1000000002", "1000000010", "1999999999", "2000000000", "9999999999", "4294967296", "4294967297", "10000000000", "999999999999", "1000000000000",
		"9223372036854775807", "9223372036854775808", "18446744073709551616", "18446744073709551617", "00", "000", "01", "001", "0123456789", "00000000001",
	}
	for _, form := range []string{"!%", "a !%", "-!%", "(!%)", "1 !%", "!%a", "!%+1", `""!%`, "!% ", "!%-1", "==!%"} {
		checkMarked(t, form, large...)
	}
	for size := 11; size <= 120; size++ {
		for _, digit := range []string{"0", "1", "9"} {
			checkBadAt(t, strings.Repeat(digit, size), 0)
			checkBadAt(t, "-"+strings.Repeat(digit, size-1), 1)
		}
		checkBadAt(t, "1"+strings.Repeat("0", size-1), 0)
	}
}

func TestTokenizeDigitsAndLetters(t *testing.T) {
	for _, marked := range []string{
		"12|ab", "1|a", "0|a", "0|x10", "1|e3", "12|ab34", "7|let", "1|in", "a1", "a12", "a1b2c3", "a0", "a00", "a007", "x1| |2", "1|a2", "1|a2|+|3|b4", "12| |ab", "ab| |12", "a| |0| |0",
		"a1|-|1", "1|-|a1", "1|+|1", "1|-|1", "1|-|-|1", "-|1", "+|1", "1|-", "1|+", "+|-|+|1", "1|+|-|1|-|+", "0|-|0", "1|abcdefgh", "1000000000|abcdefgh", "a1234567|-|1", "0|a0", "0| |0",
	} {
		checkMarked(t, marked)
	}
	for _, marked := range []string{"1!abcdefghi", "!00a", "!01ab", "!1000000001a", "!a12345678", "1 !a12345678", "!1234567890123a", "a1!A", "1!A", "0!X10", "1!_000", "a!_1", "0 !00", "1a2 !02"} {
		checkMarked(t, marked)
	}
}

func TestTokenizeNames(t *testing.T) {
	for size := 1; size <= 120; size++ {
		for _, pattern := range []string{"a", "z", "a1", "m09", "a00000000"} {
			s := strings.Repeat(pattern, size)[:size]
			if size > 8 {
				checkBadAt(t, s, 0)
			}
			if size > 8 && size < 110 {
				for _, form := range []string{"!% ", " !%", "a !%", "(!%)", "1!%", "abcdefgh !%", `"a"!%`, "=!%", "!%-1"} {
					checkMarked(t, form, s)
				}
			}
			if size <= 8 {
				for _, form := range []string{"%", " |%| ", "%| |%", "%|(|%|)", "1|%", `"%"|%|"%"`, "-|%", "%|-", "%|=|%"} {
					checkMarked(t, form, s)
				}
			}
		}
	}
	for _, marked := range []string{
		"abcdefgh| |i", "abcdefgh|+|i", "abcdefgh|(|1|)", "abcdefgh|==|a", "abcdefgh| |1", "x| |y| |z", "a!A", "!A", "!Ab", "a !Ab", "ab!C", "abcdefgh!I", "abcdefgh!\x80", "!\u00e9t\u00e9", "t!\u00e9t\u00e9", "!\uff41",
	} {
		checkMarked(t, marked)
	}
}

// A reserved word is a name like any other one here.
func TestTokenizeReservedWords(t *testing.T) {
	words := everyReservedWord()
	for _, form := range []string{"%", "%| |%", "%|(|%|)", "%|=|%", "1|%", "%|-|1", `"%"|%`, "%1", "%a", "a%", "%0", "in%", "%|+|%", " |%| "} {
		checkMarked(t, form, words...)
	}
	for _, word := range words {
		checkMarked(t, word+"| |%", words...)
		for _, other := range words {
			checkMeaning(t, word+other)
		}
		for i := 1; i < len(word); i++ {
			checkMarked(t, word[:i])
			checkMarked(t, word[:i]+"| |"+word[i:])
			checkMarked(t, "1|"+word[i:])
		}
		checkMarked(t, "!"+strings.ToUpper(word))
		checkMarked(t, "!"+strings.ToUpper(word[:1])+word[1:])
	}
	for _, marked := range []string{"letin", "iff", "format", "done", "inn", "thenelse", "sumrange", "lets| |x", "!rowsrows1", "!columnrow", "!letinifthen"} {
		checkMarked(t, marked)
	}
}

func TestTokenizeTexts(t *testing.T) {
	for _, marked := range []string{
		`""`, `" "`, `"  "`, `"a"`, `"a b"`, `" a  b "`, `"let x = 1 in x"`, `"("`, `"="`, `"=="`, `"()[],+-*<==="`, `"00"`, `"-1"`, `"abcdefghi"`, `"$#%&'/:;>?@_{}~"`, `"ABC"`, `"\"`, `"\n"`, `"\"|a|"\"`,
		`""|""`, `"a"|"b"`, `"a"| |"b"`, `""|""|""`, `"a"|b`, `a|"b"`, `1|"1"|1`, `"="|=|"="`, `"a"|=|"b"`, `(|"a"|,| |"b"|)`, ` |" "| `, `" "| |" "`, `"'"`,
	} {
		checkMarked(t, marked)
	}
	checkTokens(t, `"!" "|" "||"`, []impl.Token{{Kind: 3, Text: "!"}, {Kind: 3, Text: "|", At: 4}, {Kind: 3, Text: "||", At: 8}}, -1)
	for _, marked := range []string{
		`!"`, `a !"`, `!"a`, `a!"`, `1 !"x`, `""!"`, `"a"!"`, `"a" !"b`, `"a"b!"c`, `!" `, `!"a b c`, ` !"`, `(!")`, `f("a", !"b)`, `=!"=`, `"a" + !"`, `!"\`, `"\"!"`, `"a""b"!"`, `!'a'`, `!\"a\"`, "!\u201ca\u201d",
	} {
		checkMarked(t, marked)
	}
}

func TestTokenizeTextLength(t *testing.T) {
	for size := range 119 {
		for _, content := range []string{"x", " ", "=", "0", "~", "A"} {
			s := `"` + strings.Repeat(content, size) + `"`
			if size <= 20 {
				for _, form := range []string{"%", "a|%|b", "%|%", "1| |%|=|%| |1"} {
					checkMarked(t, form, s)
				}
			} else {
				checkBadAt(t, s, 0)
			}
			if size > 20 && size < 112 {
				for _, form := range []string{"a !% b", `""!%`, "!%00", "(!%)", `"a" !%`} {
					checkMarked(t, form, s)
				}
			}
			checkBadAt(t, s[:len(s)-1], 0)
			checkMeaning(t, s[1:])
		}
	}
}

func TestTokenizeTextEveryByte(t *testing.T) {
	for b := range 256 {
		c := string([]byte{byte(b)})
		if c == `"` {
			continue
		}
		for _, content := range []string{c, "a" + c, c + "a", "a" + c + "b", " " + c + " ", strings.Repeat(c, 20), "abcdefghijklmnopqrs" + c, c + "abcdefghijklmnopqrs"} {
			s := `"` + content + `"`
			if 32 <= b && b <= 126 {
				checkTokens(t, s, []impl.Token{{Kind: 3, Text: content}}, -1)
				checkTokens(t, "x+"+s, []impl.Token{{Kind: 1, Text: "x"}, {Kind: 4, Text: "+", At: 1}, {Kind: 3, Text: content, At: 2}}, -1)
			} else {
				checkBadAt(t, s, 0)
				checkBadAt(t, "x+"+s, 2)
				checkBadAt(t, `"" 7 `+s+` $`, 5)
			}
			checkBadAt(t, `"`+content+"x-x-x-x-x-x-x-x-x-x-x"+`"`, 0)
		}
	}
	for _, s := range []string{"\u00e9", "\u20ac", "\ufffd", "\U0001f600", "\xc3", "\xe2\x82", "\xed\xa0\x80"} {
		for _, form := range []string{`!"%"`, `!"a%b" c`, `a !"%"`, `"a" !"%"`} {
			checkMarked(t, form, s)
		}
	}
}

func TestTokenizeEveryByte(t *testing.T) {
	isPart := regexp.MustCompile(`[a-z0-9 "()[\],+*<=-]`)
	for b := range 256 {
		c := string([]byte{byte(b)})
		for _, s := range []string{"", "a", "1", "0", "+", "==", "=", " ", `""`, "abcdefgh", "1000000000", "let x = 1 in x", `(a, "b c", 17)`} {
			for i := range len(s) + 1 {
				source := s[:i] + c + s[i:]
				checkMeaning(t, source)
				// Within a text, the text is what violates a rule.
				if !isPart.MatchString(c) && strings.Count(s[:i], `"`)%2 == 0 {
					checkBadAt(t, source, i)
				}
			}
		}
	}
}

// The first of two errors counts, whatever they are.
func TestTokenizeTwoErrors(t *testing.T) {
	errors := []string{
		"$", "A", "\t", "\n", "\x00", "\x80", "\xff", "\u00e9", "00", "01", "1000000001", "99999999999999999999", "abcdefghi", "a12345678", `"` + strings.Repeat("x", 21) + `"`, "\"a\tb\"", "\"\xff\"",
	}
	for _, second := range append(errors, `"`, `"x`) {
		for _, form := range []string{"!% #", "a !% #", `1+"x" !% #`, "==!%==#", " !% a + #", `let x = "" in !% #`} {
			checkMarked(t, strings.ReplaceAll(form, "#", second), errors...)
		}
		// A text that is not closed extends over the errors that follow.
		if !strings.Contains(second, `"`) {
			checkMarked(t, `!"%`, second)
			checkMarked(t, `a + !"x % 00`, second)
			checkMarked(t, `"a" !"% b c`, second)
		}
	}
	for _, marked := range []string{`!00 "x`, `!$ "x`, `1 !$ abcdefghi 00 "x`, `"a" !A "b`, `!"a b $ 00`, `!00"x"$`, `!"abcdefghijklmnopqrstu" "`, `a!A"`, `12a!$"x"`, `"x"!$"x`} {
		checkMarked(t, marked)
	}
}

func TestTokenizeMaxCode(t *testing.T) {
	for _, pattern := range []string{" ", "a ", "  +", "abcdefgh ", "1000000000 ", `"abcdefghijklmnop" `, "(a+1)*\"x\" ", "== ", "=", "let x = 1 in x "} {
		for size := range 300 {
			checkMeaning(t, strings.Repeat(pattern, size)[:size])
		}
	}
	for _, s := range []string{"", "a", "abcdefgh", "+", `"a b"`, "==", "1000000000"} {
		checkMarked(t, "%|"+strings.Repeat(" ", 120-len(s)), s)
		checkMarked(t, strings.Repeat(" ", 120-len(s))+"|%", s)
		checkBadAt(t, s+strings.Repeat(" ", 121-len(s)), 120)
		checkBadAt(t, strings.Repeat(" ", 121-len(s))+s, 120)
	}
	// What is wrong in a string that is too long does not count.
	for _, s := range []string{"$", "00", "abcdefghi", `"`, "\xff", "\n", "a $", "A" + strings.Repeat(" ", 118) + "$", strings.Repeat("(", 61), strings.Repeat("$", 120), strings.Repeat(`"`, 119), strings.Repeat("1", 120)} {
		checkMeaning(t, s)
		for size := 121; size < 130; size++ {
			checkBadAt(t, s+strings.Repeat(" ", size-len(s)), 120)
			checkBadAt(t, s+strings.Repeat("a", size-len(s)), 120)
			checkBadAt(t, strings.Repeat(" ", size-len(s))+s, 120)
		}
	}
	for _, pattern := range []string{" ", "a", "a ", "$", `"`, "0", "=", "\xff", "\u20ac", "("} {
		checkBadAt(t, strings.Repeat(pattern, 5000000), 120)
	}
	// Bytes count, not runes.
	checkBadAt(t, strings.Repeat("\u20ac", 40), 0)
	checkBadAt(t, strings.Repeat("\u20ac", 41), 120)
	checkBadAt(t, strings.Repeat(" ", 117)+"\u20ac", 117)
	checkBadAt(t, strings.Repeat(" ", 118)+"\u20ac", 120)
}

func TestTokenizeMaxTokens(t *testing.T) {
	for _, word := range []string{"(", ")", "[", "]", ",", "+", "-", "*", "<", "==", `""`} {
		for size := range 62 {
			s := strings.Repeat(word, size)
			var want []impl.Token
			for i := range size {
				want = append(want, tokenOf(word, i*len(word)))
			}
			switch {
			case len(s) > 120:
				checkBadAt(t, s, 120)
			case size > 60:
				checkBadAt(t, s, 60*len(word))
			default:
				checkTokens(t, s, want, -1)
			}
		}
	}
	// One byte for each token and one between two of them.
	for _, word := range []string{"a", "0", "=", "+"} {
		for _, size := range []int{58, 59, 60} {
			checkMarked(t, strings.Repeat("%| |", size-1)+"%", word)
		}
		checkBadAt(t, strings.Repeat(word+" ", 60)+word, 120)
	}
	sixty := strings.Repeat("(|", 60)
	for _, spaces := range []string{"", " ", "  ", strings.Repeat(" ", 60)} {
		checkMarked(t, sixty+spaces)
		checkMarked(t, spaces+"|"+sixty)
	}
	checkMarked(t, strings.Repeat("a|+|", 30))
	checkMarked(t, strings.Repeat("1|a|-|", 20))
	checkMarked(t, strings.Repeat("1|a|-|", 20)+"!b")
}

// Token number MaxTokens is an error if it violates a rule and if it does not.
func TestTokenizeTokenNumberMaxTokens(t *testing.T) {
	words := []string{"a", "let", "abcdefgh", "0", "12", "1000000000", `""`, `"a b"`, "(", "=", "==", "+", "$", "A", "\n", "\xff", "\u20ac", "00", "01", "1000000001", "abcdefghi", `"`, `"x`, `"abcdefghijklmnopqrstu"`, "\"\xff\""}
	for _, form := range []string{"!%", "!% ", "!%$", " !%", "   !% 00", "!% a b c", "!%)", " !% $"} {
		checkMarked(t, strings.Repeat("(", 60)+form, words...)
		checkMarked(t, strings.Repeat("1a*", 20)+form, words...)
	}
	for _, word := range words {
		if tokenForm.MatchString(word) {
			checkMarked(t, strings.Repeat("(|", 59)+"%", word)
			checkMarked(t, strings.Repeat("(|", 59)+"%| !$", word)
			checkMarked(t, "%|"+strings.Repeat("(|", 59)+"!+", word)
		} else {
			// An earlier error counts before the number of tokens.
			checkMarked(t, strings.Repeat("(", 59)+"!%", word)
			checkMarked(t, strings.Repeat("(", 58)+"!%", word)
			checkMarked(t, "!% ((((((((((((((((((((((((((((((((((((((((((((((((((((((((((((((((((", word)
		}
	}
}

// A space before a token moves this token and those behind it, and nothing else.
func TestTokenizeOffsets(t *testing.T) {
	for _, words := range [][]string{
		{"let", "x", "=", "12", "in", `"a b"`}, {"(", "1", "+", "a", ")", "*", "3"}, {`""`, `" "`, "==", "=", "0", "z"}, {"f", "[", `"="`, ",", "abcdefgh", "]"},
	} {
		for widths := range 4096 {
			var source string
			var want []impl.Token
			for i, word := range words {
				source += strings.Repeat(" ", widths>>(2*i)&3)
				// Two words may be one without a space between them.
				if i > 0 && !strings.HasSuffix(source, " ") && wordForm.FindString(words[i-1]+word) != words[i-1] {
					source += " "
				}
				want = append(want, tokenOf(word, len(source)))
				source += word
			}
			checkTokens(t, source, want, -1)
			checkTokens(t, source+" ", want, -1)
		}
	}
}

func TestTokenizeAllShortStrings(t *testing.T) {
	accepted := 0
	for _, s := range append(stringsOver("a10=+ \"$A", 5), stringsOver("z9 \"=<-(,]*\x80", 4)...) {
		if checkMeaning(t, s) {
			accepted++
		}
	}
	if accepted < 10000 {
		t.Errorf("only %d strings have no error", accepted)
	}
}

// tokenSources are sources without an error that have every kind of token.
func tokenSources() []string {
	return []string{
		`let x = 12 in "a b"`, "(1+2)*3-sum([a,4])", "if a<b then 1 else 0", `for x in take(3, s) do x == "x"`, `join("k", where("b",1,t), t)`, "abcdefgh 1000000000 a1234567", `"abcdefghijklmnopqrst"`,
		"==  = =<+ - 0 0", strings.Repeat("(", 60), strings.Repeat("a ", 60), strings.Repeat("x+", 30) + " ",
	}
}

func TestTokenizeOneMistake(t *testing.T) {
	for _, s := range tokenSources() {
		for i := range len(s) + 1 {
			for _, c := range strings.Split("0 1 9 a z A = + ( \" $ \x00 \n \x80 \xff", " ") {
				checkMeaning(t, s[:i]+c+s[i:])
				checkMeaning(t, s[:i]+" "+s[i:])
				if i < len(s) {
					checkMeaning(t, s[:i]+c+s[i+1:])
				}
			}
			checkMeaning(t, s[:i])
			checkMeaning(t, s[i:])
			if i < len(s) {
				checkMeaning(t, s[:i]+s[i+1:])
			}
		}
	}
}

func TestFormatTokenKnown(t *testing.T) {
	check := func(token impl.Token, want string) {
		t.Helper()
		if got := impl.FormatToken(token); got != want {
			t.Errorf("FormatToken(%+v) = %q, want %q", token, got, want)
		}
	}
	for _, at := range []int{0, 1, 119, -1, math.MaxInt, math.MinInt} {
		for _, s := range append(oddStrings(), "x", "let", "abcdefgh", "(", "==", "a b", `"`, `a"b`, `""`, "\\", "-5") {
			check(impl.Token{Kind: 1, Text: s, At: at}, s)
			check(impl.Token{Kind: 1, Text: s, At: at, N: 7}, s)
			check(impl.Token{Kind: 3, Text: s, At: at}, `"`+s+`"`)
			check(impl.Token{Kind: 3, Text: s, At: at, N: -7}, `"`+s+`"`)
			check(impl.Token{Kind: 4, Text: s, At: at}, s)
			check(impl.Token{Kind: 4, Text: s, At: at, N: 7}, s)
			for _, kind := range []int{0, -1, -2, -3, -4, 5, 6, 7, 256 + 1, 1<<32 + 2, math.MaxInt, math.MinInt, math.MinInt + 1} {
				check(impl.Token{Kind: kind, Text: s, N: 7, At: at}, "")
			}
		}
		for n, want := range map[int]string{
			0: "0", 7: "7", 10: "10", 1000000000: "1000000000", 1000000001: "1000000001", -1: "-1", -12: "-12", -1000000000: "-1000000000",
			math.MaxInt: "9223372036854775807", math.MinInt: "-9223372036854775808", math.MinInt + 1: "-9223372036854775807",
		} {
			check(impl.Token{Kind: 2, N: n, At: at}, want)
			check(impl.Token{Kind: 2, N: n, At: at, Text: "x"}, want)
		}
	}
	check(impl.Token{}, "")
}

func checkFormatted(t *testing.T, list []impl.Token, want string) {
	t.Helper()
	if got := impl.FormatTokens(list); got != want {
		t.Errorf("FormatTokens(%+v) = %q, want %q", list, got, want)
	}
}

func TestFormatTokensKnown(t *testing.T) {
	checkFormatted(t, nil, "")
	checkFormatted(t, []impl.Token{}, "")
	for _, s := range []string{
		"a", "7", `""`, `" "`, "(", "==", "let x = 12 in \"a b\"", "( 1 + 2 ) * 3 - sum ( [ a , 4 ] )", `"a" "b"`, "= =", "== =", "= ==", "- 1", "+ - 0", `f ( " x " , 0 )`, "1 a", "12 ab 34",
	} {
		var list []impl.Token
		for _, word := range wordForm.FindAllString(s, -1) {
			if word != " " {
				list = append(list, tokenOf(word, 7-len(list)))
			}
		}
		checkFormatted(t, list, s)
	}
	// There are spaces between empty words, too.
	none, empty := impl.Token{Kind: 9, Text: "x", N: 1}, impl.Token{Kind: 1}
	for size := range 5 {
		spaces := strings.Repeat(" ", max(0, size-1))
		checkFormatted(t, slices.Repeat([]impl.Token{none}, size), spaces)
		checkFormatted(t, slices.Repeat([]impl.Token{empty}, size), spaces)
	}
	checkFormatted(t, []impl.Token{none, {Kind: 2, N: -5}, empty, {Kind: 4, Text: " + "}, none}, " -5   +  ")
	checkFormatted(t, []impl.Token{{Kind: 2, N: math.MinInt}, {Kind: 3, Text: `a"b`}, {Kind: 1, Text: "\xff\x00"}, {Kind: 3}}, "-9223372036854775808 \"a\"b\" \xff\x00 \"\"")
	for _, size := range []int{60, 61, 1000, 200000} {
		checkFormatted(t, slices.Repeat([]impl.Token{{Kind: 4, Text: "=="}}, size), strings.TrimSuffix(strings.Repeat("== ", size), " "))
	}
}

func TestIsKeywordAndIsSymbol(t *testing.T) {
	texts := append(append(everyReservedWord(), everySymbol()...), "", "x", "le", "lets", "LET", "let ", " let", "a b", "===", "= ", "(]", ">", "12", `"let"`, `"="`, "\xff", "abcdefghi")
	for _, kind := range []int{1, 2, 3, 4, 0, 5, -1, -4, 256 + 1, 256 + 4, 1<<32 + 1, 1<<32 + 4, math.MaxInt, math.MinInt} {
		for _, text := range texts {
			for _, token := range []impl.Token{{Kind: kind, Text: text}, {Kind: kind, Text: text, N: 12, At: 3}, {Kind: kind, Text: text, N: -1, At: -1}} {
				for _, s := range texts {
					if got, want := impl.IsKeyword(token, s), kind == 1 && text == s; got != want {
						t.Errorf("IsKeyword(%+v, %q) = %v", token, s, got)
					}
					if got, want := impl.IsSymbol(token, s), kind == 4 && text == s; got != want {
						t.Errorf("IsSymbol(%+v, %q) = %v", token, s, got)
					}
				}
			}
		}
	}
}

// The texts and the number of a source look like its keywords and symbols.
func TestIsKeywordAndIsSymbolOfTokens(t *testing.T) {
	list, _ := impl.Tokenize(`let = "let" 12 "=" let12`)
	for i, s := range []string{"let", "=", "let", "12", "=", "let12"} {
		if i >= len(list) || impl.IsKeyword(list[i], s) != (i == 0 || i == 5) || impl.IsSymbol(list[i], s) != (i == 1) {
			t.Errorf("token %d of %+v", i, list)
		}
	}
}

// withoutOffsets returns a copy of the tokens, each at offset 0.
func withoutOffsets(list []impl.Token) []impl.Token {
	list = slices.Clone(list)
	for i := range list {
		list[i].At = 0
	}
	return list
}

// checkParsedAgain checks that the formatted list of these tokens gives them again, if it is not too long. It returns
// whether it is not.
func checkParsedAgain(t *testing.T, list []impl.Token) bool {
	t.Helper()
	s := impl.FormatTokens(list)
	again, bad := impl.Tokenize(s)
	if len(s) > 120 {
		checkBadAt(t, s, 120)
		return false
	}
	if bad != -1 || !slices.Equal(withoutOffsets(again), withoutOffsets(list)) {
		t.Errorf("Tokenize(%q) = %+v, %d, want %+v", s, again, bad, list)
	}
	at := 0
	for _, token := range again {
		if token.At != at {
			t.Errorf("Tokenize(%q) = %+v: wrong offsets", s, again)
		}
		at += len(impl.FormatToken(token)) + 1
	}
	checkFormatted(t, again, s)
	return true
}

// checkSource checks a string and what its tokens are parsed from. It returns whether its tokens were parsed again.
func checkSource(t *testing.T, s string) bool {
	t.Helper()
	if !checkMeaning(t, s) {
		return false
	}
	list, _ := impl.Tokenize(s)
	return checkParsedAgain(t, list)
}

func TestTokensAreParsedFromTheirFormattedList(t *testing.T) {
	checkParsedAgain(t, nil)
	for _, s := range tokenSources() {
		checkSource(t, s)
	}
	for _, s := range stringsOver("a0=+ \"1", 6) {
		checkSource(t, s)
	}
	random := rand.New(rand.NewSource(9))
	const alphabet = "abz019 ()[],+-*<=\"   "
	parsed := 0
	for range 300000 {
		s := make([]byte, random.Intn(14))
		for i := range s {
			s[i] = alphabet[random.Intn(len(alphabet))]
		}
		if checkSource(t, string(s)) {
			parsed++
		}
	}
	if parsed < 50000 {
		t.Errorf("only %d strings were parsed again", parsed)
	}
}

func TestTokensAreParsedFromRandomBytes(t *testing.T) {
	random := rand.New(rand.NewSource(99))
	parsed := 0
	for range 300000 {
		s := make([]byte, random.Intn(6))
		for i := range s {
			s[i] = byte(random.Intn(256))
			// A third of the bytes may occur in a source.
			if random.Intn(3) == 0 {
				s[i] = byte(32 + random.Intn(95))
			}
		}
		if checkSource(t, string(s)) {
			parsed++
		}
	}
	if parsed < 10000 {
		t.Errorf("only %d strings were parsed again", parsed)
	}
}

// Words put together at random, with and without spaces: these are longer, and some are too long or too many.
func TestTokensAreParsedFromRandomWords(t *testing.T) {
	words := append(append(everySymbol(), everyReservedWord()...), "a", "x1", "abcdefgh", "0", "7", "12", "1000000000", `""`, `"a b"`, `"= ="`, `"abcdefghijklmnopqrst"`, "=", "==", "(", "+", ")", ",")
	random := rand.New(rand.NewSource(999))
	parsed, tooLong, tooMany := 0, 0, 0
	for range 60000 {
		var s string
		spaces := random.Intn(4)
		short := 1 + random.Intn(len(words))
		for range random.Intn(70) {
			s += words[random.Intn(len(words))%short] + strings.Repeat(" ", random.Intn(spaces+1))
		}
		if checkSource(t, s) {
			parsed++
		} else if list, bad := impl.Tokenize(s); bad == -1 && len(list) > 0 {
			tooLong++
		} else if tokens, _ := tokensMeaning(s[:max(0, min(bad, 120))]); len(tokens) == 60 {
			tooMany++
		}
	}
	if parsed < 5000 || tooLong < 100 || tooMany < 100 {
		t.Errorf("%d strings were parsed again, the tokens of %d were too long, those of %d too many: too few to mean anything", parsed, tooLong, tooMany)
	}
}

// Lists of tokens that need not come from a source.
func TestTokensAreParsedFromRandomLists(t *testing.T) {
	words := append(append(everySymbol(), everyReservedWord()...), "a", "x1", "abcdefgh", "0", "12", "1000000000", `""`, `"a b"`, `"= ="`, `" "`, "=", "==")
	random := rand.New(rand.NewSource(9999))
	for range 100000 {
		var list []impl.Token
		for range random.Intn(30) {
			list = append(list, tokenOf(words[random.Intn(len(words))], random.Intn(200)-50))
		}
		checkParsedAgain(t, list)
	}
	for _, word := range words {
		for size := range 61 {
			checkParsedAgain(t, slices.Repeat([]impl.Token{tokenOf(word, 0)}, size))
		}
	}
}

// Promise 48: every function is total and does not modify its arguments.

func TestTokenizeResultsAreIndependent(t *testing.T) {
	for _, s := range append(tokenSources(), "", "a", "==", `""`, "$", "a $", strings.Repeat(" ", 121)) {
		first, bad := impl.Tokenize(s)
		second, _ := impl.Tokenize(s)
		want := slices.Clone(first)
		clear(second[:cap(second)])
		if !slices.Equal(first, want) {
			t.Errorf("Tokenize(%q) changed with another result", s)
		}
		clear(first[:cap(first)])
		checkTokens(t, s, want, bad)
		if bad != -1 && first != nil {
			t.Errorf("Tokenize(%q) has tokens beside an error", s)
		}
	}
}

func TestFormatTokensKeepsItsList(t *testing.T) {
	for _, s := range append(tokenSources(), "", "a", "==") {
		list, _ := tokensMeaning(s)
		all := append(slices.Clone(list), impl.Token{Kind: 1, Text: "spare"}, impl.Token{Kind: 7, N: 7, At: 7})
		want := slices.Clone(all)
		got := impl.FormatTokens(all[:len(list)])
		checkFormatted(t, list, got)
		for i, token := range list {
			impl.FormatToken(all[i])
			impl.IsKeyword(all[i], token.Text)
			impl.IsSymbol(all[i], token.Text)
		}
		if !slices.Equal(all, want) {
			t.Errorf("FormatTokens changed %+v to %+v", want, all)
		}
		clear(all)
		if again := impl.FormatTokens(list); again != got {
			t.Errorf("FormatTokens(%+v) = %q, and then %q", list, got, again)
		}
	}
}
