package tests

import (
	"math"
	"math/rand"
	"reflect"
	"regexp"
	"slices"
	"strconv"
	"strings"
	"testing"

	"loop.example/g00510/impl"
)

// Promise 4: a valid value is parsed from its representation, except for origins.

func errorNames() []string {
	return []string{"missing", "duplicate", "cycle", "type", "range", "limit", "column", "syntax"}
}

func TestErrorName(t *testing.T) {
	for i, want := range errorNames() {
		if got := impl.ErrorName(i + 1); got != want {
			t.Errorf("ErrorName(%d) = %q, want %q", i+1, got, want)
		}
	}
	for _, code := range []int{0, -1, -8, 9, 10, 256 + 1, 1<<32 + 1, math.MaxInt, math.MinInt, math.MinInt + 1} {
		if got := impl.ErrorName(code); got != "?" {
			t.Errorf("ErrorName(%d) = %q, want \"?\"", code, got)
		}
	}
}

func TestErrorCode(t *testing.T) {
	for i, s := range errorNames() {
		if got := impl.ErrorCode(s); got != i+1 {
			t.Errorf("ErrorCode(%q) = %d, want %d", s, got, i+1)
		}
		for _, other := range []string{s + " ", " " + s, "\"" + s + "\"", "error " + s, strings.ToUpper(s), strings.ToUpper(s[:1]) + s[1:], s[1:], s[:len(s)-1], s + "s", s + s, s + "\x00"} {
			if got := impl.ErrorCode(other); got != 0 {
				t.Errorf("ErrorCode(%q) = %d, want 0", other, got)
			}
		}
	}
	for _, s := range append(oddStrings(), "?", "", " ", "??", "none", "error", "0", "1", "8", "\xff") {
		if got := impl.ErrorCode(s); got != 0 {
			t.Errorf("ErrorCode(%q) = %d, want 0", s, got)
		}
	}
}

// written is a value without origins and its representation.
type written struct {
	v impl.Value
	s string
}

func writtenValues() []written {
	text20 := strings.Repeat("x", 20)
	names := []string{"a", "b"}
	all := []written{
		{impl.NumberValue(0), "0"},
		{impl.NumberValue(-5), "-5"},
		{impl.NumberValue(10), "10"},
		{impl.NumberValue(1000000000), "1000000000"},
		{impl.NumberValue(-1000000000), "-1000000000"},
		{impl.NumberValue(999999999), "999999999"},
		{impl.TextValue(""), `""`},
		{impl.TextValue(" "), `" "`},
		{impl.TextValue("a b"), `"a b"`},
		{impl.TextValue("[1, 2]"), `"[1, 2]"`},
		{impl.TextValue("],("), `"],("`},
		{impl.TextValue("range(1, 2)"), `"range(1, 2)"`},
		{impl.TextValue("error type"), `"error type"`},
		{impl.TextValue("-07 'it''s' \\n\\"), `"-07 'it''s' \n\"`},
		{impl.TextValue(text20), `"` + text20 + `"`},
		{impl.TextValue(" !#$%&'()*+,-./0~"), `" !#$%&'()*+,-./0~"`},
		{numbers(), "[]"},
		{numbers(7), "[7]"},
		{numbers(1, -2, 0), "[1, -2, 0]"},
		{numbers(1, 2, 3, 4, 5, 6, 7, 8), "[1, 2, 3, 4, 5, 6, 7, 8]"},
		{listOf(impl.NumberValue(1), impl.TextValue("x"), numbers()), `[1, "x", []]`},
		{listOf(impl.TextValue(""), impl.TextValue(", "), impl.TextValue("]")), `["", ", ", "]"]`},
		{nested(2), "[[]]"},
		{nested(3), "[[[]]]"},
		{listOf(numbers(1, 2), numbers(3)), "[[1, 2], [3]]"},
		{listOf(listOf(numbers(), numbers()), impl.NumberValue(-1), nested(2)), "[[[], []], -1, [[]]]"},
		{impl.StreamValue(0, 0), "range(0, 0)"},
		{impl.StreamValue(1, 2), "range(1, 2)"},
		{impl.StreamValue(2, 1), "range(2, 1)"},
		{impl.StreamValue(-3, -40), "range(-3, -40)"},
		{impl.StreamValue(1000000000, -1000000000), "range(1000000000, -1000000000)"},
		{tableValue(names[:1]), `table("a", [])`},
		{tableValue(names), `table("a b", [])`},
		{tableValue(names[:1], []int{5}), `table("a", [[5]])`},
		{tableValue(names, []int{1, 2}, []int{3, -4}), `table("a b", [[1, 2], [3, -4]])`},
		{tableValue([]string{"b", "a"}, []int{0, 1000000000}), `table("b a", [[0, 1000000000]])`},
	}
	for i, s := range errorNames() {
		all = append(all, written{impl.ErrorValue(i + 1), "error " + s})
	}
	return append(all, largestValues()...)
}

// largestValues are as long as a value may be: texts in lists, and a table whose names are longer than a text.
func largestValues() []written {
	text := strings.Repeat("~", 20)
	texts := listOf(slices.Repeat([]impl.Value{impl.TextValue(text)}, 8)...)
	lists := listOf(slices.Repeat([]impl.Value{texts}, 8)...)
	inner := "[" + strings.Join(slices.Repeat([]string{`"` + text + `"`}, 8), ", ") + "]"

	columns := []string{"abcdefgh", "a2345678", "zzzzzzzz", "a0000000"}
	row := []int{-1000000000, 1000000000, -1, 0}
	table := tableValue(columns, slices.Repeat([][]int{row}, 12)...)
	rows := strings.Join(slices.Repeat([]string{"[-1000000000, 1000000000, -1, 0]"}, 12), ", ")
	return []written{
		{lists, "[" + strings.Join(slices.Repeat([]string{inner}, 8), ", ") + "]"},
		{table, `table("abcdefgh a2345678 zzzzzzzz a0000000", [` + rows + "])"},
	}
}

func checkAccepted(t *testing.T, s string, want impl.Value) {
	t.Helper()
	v, ok := impl.ParseValue(s)
	if !ok || !reflect.DeepEqual(normal(v), normal(want)) {
		t.Errorf("ParseValue(%q) = %+v, %v, want %+v, true", s, v, ok, want)
		return
	}
	if !impl.IsValidValue(v) || impl.FormatValue(v) != s {
		t.Errorf("FormatValue of ParseValue(%q) = %q", s, impl.FormatValue(v))
	}
}

func checkRefused(t *testing.T, s string) {
	t.Helper()
	if v, ok := impl.ParseValue(s); ok || !reflect.DeepEqual(normal(v), impl.Value{}) {
		t.Errorf("ParseValue(%q) = %+v, %v, want the zero Value, false", s, v, ok)
	}
}

func TestFormatValueKnown(t *testing.T) {
	for _, c := range writtenValues() {
		if got := impl.FormatValue(c.v); got != c.s {
			t.Errorf("FormatValue(%+v) = %q, want %q", c.v, got, c.s)
		}
		checkAccepted(t, c.s, c.v)
	}
}

func TestFormatValueIgnoresOrigins(t *testing.T) {
	first := []impl.Origin{{}, {Row: 1}, {Cell: 3, Row: 2}, {Cell: math.MaxInt, Row: math.MaxInt}}
	plain := tableValue([]string{"a", "b"}, []int{1, 2}, []int{1, 2}, []int{3, 4})
	for _, from := range [][][]impl.Origin{{nil, nil, nil}, {first, nil, nil}, {nil, nil, first}, {first, first, {{Cell: 9}}}} {
		v := normal(plain)
		for i := range v.Rows {
			v.Rows[i].From = from[i]
		}
		const want = `table("a b", [[1, 2], [1, 2], [3, 4]])`
		if got := impl.FormatValue(v); got != want {
			t.Errorf("FormatValue(%+v) = %q, want %q", v, got, want)
		}
		checkAccepted(t, impl.FormatValue(v), plain)
	}
}

func TestParseValueInvertsFormatValue(t *testing.T) {
	shown := map[string]impl.Value{}
	for _, v := range validValues() {
		s := impl.FormatValue(v)
		checkAccepted(t, s, withoutOrigins(v))
		if other, ok := shown[s]; ok && !impl.EqualShown(v, other) {
			t.Errorf("%+v and %+v are both written %q", v, other, s)
		}
		shown[s] = v
	}
}

func TestFormatValueInvalid(t *testing.T) {
	check := func(v impl.Value) {
		t.Helper()
		if got := impl.FormatValue(v); got != "" {
			t.Errorf("FormatValue(%+v) = %q, want \"\"", v, got)
		}
	}
	for _, v := range append(invalidValues(), fullValue()) {
		check(v)
		check(listOf(v))
		check(listOf(impl.NumberValue(1), v))
	}
	for _, c := range kindCases() {
		for _, s := range strays() {
			v := c.v
			s.set(&v)
			if !slices.Contains(c.uses, s.field) {
				check(v)
				check(listOf(v))
			}
		}
	}
	for depth := 4; depth < 10; depth++ {
		check(nested(depth))
	}
	check(tableValue([]string{"a"}, slices.Repeat([][]int{{1}}, 13)...))
	check(tableValue([]string{"a", "b", "c", "d", "e"}))
	check(tableValue([]string{"a b"}))
	check(tableValue([]string{"a\", []) \""}))
	check(tableValue([]string{"a"}, []int{1, 2}))
	check(tableValue([]string{"a"}, []int{impl.MaxNumber + 1}))
	self := make([]impl.Value, 1)
	self[0] = listOf(self...)
	self[0].List = self
	check(self[0])
}

func TestParseNumbers(t *testing.T) {
	for n := -1100; n <= 1100; n++ {
		s := strconv.Itoa(n)
		checkAccepted(t, s, impl.NumberValue(n))
		checkAccepted(t, "["+s+"]", numbers(n))
		checkAccepted(t, "range("+s+", 1)", impl.StreamValue(n, 1))
		checkAccepted(t, "range(1, "+s+")", impl.StreamValue(1, n))
		checkAccepted(t, `table("a", [[`+s+"]])", tableValue([]string{"a"}, []int{n}))
	}
	bad := []string{
		"+1", "01", "-0", "+0", "-01", "00", "--1", "-", "+", "1-", "1a", "a1", "0x1", "1_0", "1e3", "1.0", ".5", "\u0661", "\uff11", "1\x00", "x",
		"1000000001", "-1000000001", "999999999999", "-999999999999", "1000000000000", "9223372036854775807", "9223372036854775808",
		"4294967296", "18446744073709551616", "18446744073709551617", strings.Repeat("1", 1000), strings.Repeat("0", 1000), "",
	}
	for _, s := range bad {
		checkRefused(t, s)
		checkRefused(t, "[1, "+s+"]")
		checkRefused(t, "["+s+", 1]")
		checkRefused(t, "range("+s+", 1)")
		checkRefused(t, "range(1, "+s+")")
		checkRefused(t, `table("a", [[`+s+"]])")
		checkRefused(t, `table("a b", [[1, 2], [`+s+", 3]])")
	}
}

func TestParseTexts(t *testing.T) {
	for size := range 30 {
		s := strings.Repeat("x", size)
		if size <= 20 {
			checkAccepted(t, `"`+s+`"`, impl.TextValue(s))
			checkAccepted(t, `["`+s+`"]`, listOf(impl.TextValue(s)))
		} else {
			checkRefused(t, `"`+s+`"`)
			checkRefused(t, `["`+s+`"]`)
		}
		checkRefused(t, s)
		checkRefused(t, `"`+s)
		checkRefused(t, s+`"`)
		checkRefused(t, `["`+s+`]`)
	}
	for b := range 256 {
		c := string([]byte{byte(b)})
		for _, s := range []string{c, "a" + c, c + "a", "a" + c + "b", strings.Repeat(c, 20)} {
			if 32 <= b && b <= 126 && b != '"' {
				checkAccepted(t, `"`+s+`"`, impl.TextValue(s))
				checkAccepted(t, `["`+s+`", 1]`, listOf(impl.TextValue(s), impl.NumberValue(1)))
			} else {
				checkRefused(t, `"`+s+`"`)
				checkRefused(t, `["`+s+`", 1]`)
			}
		}
		checkRefused(t, `"a"`+c)
		checkRefused(t, c+`"a"`)
	}
	for _, s := range []string{"\u00e9", "\u20ac", "\ufffd", "\U0001f600", "\xff", "\xc3", "\xe2\x82", "\xed\xa0\x80", "\u201c", "\u00a0", "\x00", "\t", "\n"} {
		checkRefused(t, s)
		checkRefused(t, `"`+s+`"`)
		checkRefused(t, `"a`+s+`b"`)
		checkRefused(t, `[1, "`+s+`"]`)
		checkRefused(t, s+"1")
		checkRefused(t, "1"+s)
		checkRefused(t, "["+s+"]")
		checkRefused(t, `table("`+s+`", [])`)
		checkRefused(t, `table("a", [`+s+`])`)
	}
	for _, s := range []string{`"`, `"""`, `""""`, `"a"b"`, `""a`, `"a""b"`, `'a'`, "`a`", `"\""`, `a"b`, `"a" "b"`} {
		checkRefused(t, s)
		checkRefused(t, "["+s+"]")
	}
}

func TestParseLists(t *testing.T) {
	for size := range 40 {
		s := "[" + strings.Join(slices.Repeat([]string{"1"}, size), ", ") + "]"
		if size <= 8 {
			checkAccepted(t, s, numbers(slices.Repeat([]int{1}, size)...))
			checkAccepted(t, "["+s+"]", listOf(numbers(slices.Repeat([]int{1}, size)...)))
		} else {
			checkRefused(t, s)
			checkRefused(t, "["+s+"]")
		}
	}
	for depth := 1; depth < 20; depth++ {
		s := strings.Repeat("[", depth) + strings.Repeat("]", depth)
		if depth <= 3 {
			checkAccepted(t, s, nested(depth))
		} else {
			checkRefused(t, s)
		}
		checkRefused(t, s[1:])
		checkRefused(t, s[:len(s)-1])
	}
	checkAccepted(t, "[[1]]", listOf(numbers(1)))
	for _, s := range []string{
		"[[[1]]]", `[[["a"]]]`, "[1, [2, [3]]]", "[[], [[1]]]",
		"[range(1, 2)]", "[1, range(1, 2)]", "[[range(0, 0)]]", "[error type]", "[1, error syntax]", "[[error missing]]",
		`[table("a", [])]`, `[1, table("a", [[1]])]`, `[[table("a", [])]]`,
		"[1,2]", "[1 2]", "[1,  2]", "[1 ,2]", "[1 , 2]", "[ 1, 2]", "[1, 2 ]", "[1, 2, ]", "[1, 2,]", "[, 1]", "[,]", "[, ]", "[1, , 2]", "[1,, 2]", "[ ]", "[  ]",
		" [1]", "[1] ", " [1] ", "[1, 2", "1, 2]", "[", "]", "][", "[]]", "[[]", "[[1], [2]", "[1]]", "(1, 2)", "[(1)]", "([1])", "{1}", "[1; 2]", "[1][2]", "[1] [2]", "[1], [2]",
		"[1,\t2]", "[1,\n2]", "[1, 2]\n", "1, 2", "1 2",
	} {
		checkRefused(t, s)
	}
}

func TestParseStreams(t *testing.T) {
	for _, s := range []string{
		"range", "range(", "range()", "range(1)", "range(1, )", "range(, 1)", "range(1, 2", "range 1, 2", "range(1 2)", "range(1,2)", "range(1,  2)", "range(1 , 2)",
		"range( 1, 2)", "range(1, 2 )", "range (1, 2)", " range(1, 2)", "range(1, 2) ", "range(1, 2))", "range((1, 2)", "range(1, 2, 3)", "range[1, 2]", "[1, 2]range",
		"Range(1, 2)", "rang(1, 2)", "range1, 2", "range(\"1\", 2)", "range([1], 2)", "range(1, 2)range(1, 2)", "range(1, error type)", "range(a, b)", "(1, 2)",
	} {
		checkRefused(t, s)
	}
}

func TestParseErrors(t *testing.T) {
	for _, s := range errorNames() {
		for _, bad := range []string{s, "error" + s, "error  " + s, " error " + s, "error " + s + " ", "error(" + s + ")", "error \"" + s + "\"", "error " + strings.ToUpper(s), "Error " + s, "error " + s + "s", "error " + s[1:], "error, " + s, "error " + s + " " + s, "error [" + s + "]", "[error " + s + "]"} {
			checkRefused(t, bad)
		}
	}
	for _, s := range []string{"error ?", "error ", "error", "error  ", "error 1", "error 0", "error none", "error error", "?", "error ?type", "error type?"} {
		checkRefused(t, s)
	}
}

func TestParseTables(t *testing.T) {
	for rows := range 40 {
		s := `table("a b", [` + strings.Join(slices.Repeat([]string{"[1, -2]"}, rows), ", ") + "])"
		if rows <= 12 {
			checkAccepted(t, s, tableValue([]string{"a", "b"}, slices.Repeat([][]int{{1, -2}}, rows)...))
		} else {
			checkRefused(t, s)
		}
	}
	names := []string{"a", "b", "c", "d", "e", "f"}
	for columns := range names {
		for cells := range 10 {
			row := slices.Repeat([]int{7}, cells)
			s := `table("` + strings.Join(names[:columns], " ") + `", [[` + strings.Join(slices.Repeat([]string{"7"}, cells), ", ") + "]])"
			if cells == columns && 1 <= columns && columns <= 4 {
				checkAccepted(t, s, tableValue(names[:columns], row))
			} else {
				checkRefused(t, s)
			}
		}
	}
	for _, word := range everyReservedWord() {
		checkRefused(t, `table("`+word+`", [])`)
		checkRefused(t, `table("a `+word+`", [])`)
		checkRefused(t, `table("`+word+` b", [[1, 2]])`)
	}
	for _, s := range oddStrings() {
		checkStrict(t, `table("`+s+`", [])`)
		checkRefused(t, `table("a `+s+`", [])`)
		checkRefused(t, `table("`+s+` b", [[1, 2]])`)
	}
	for _, s := range []string{
		`table("a a", [])`, `table("a b a", [])`, `table("", [])`, `table("", [[]])`, `table(" ", [])`, `table(" a", [])`, `table("a ", [])`, `table("a  b", [])`, `table("abcdefghi", [])`,
		`table("a,b", [])`, `table("a, b", [])`, `table("[a]", [])`, `table("A", [])`, `table("1a", [])`, `table("a b c d e", [])`,
		`table("a", [[]])`, `table("a", [[1, 2]])`, `table("a", [1])`, `table("a", 1)`, `table("a", "b")`, `table("a", [[1], 2])`, `table("a", [["1"]])`, `table("a", [[[1]]])`, `table("a", [[[]]])`,
		`table("a", [[1], []])`, `table("a", [[1], [1, 2]])`, `table("a", [range(1, 2)])`, `table("a", [[range(1, 2)]])`, `table("a", [[error type]])`, `table("a", [error type])`,
		`table("a", [table("a", [])])`, `table("a", [[table("a", [])]])`, `table("a", table("a", []))`, `table("a b", [[1, range(2, 3)]])`, `table("a", range(1, 2))`,
		`table("a")`, `table("a", )`, `table([], "a")`, `table([])`, `table()`, `table(`, "table", `table("a", [], [])`, `table("a", []`, `table("a", [[1]]`, `table("a", [[1])`, `table("a", [1]])`, `table("a", [)`, `table("a", ])`,
		`table ("a", [])`, `table( "a", [])`, `table("a" , [])`, `table("a",[])`, `table("a",  [])`, `table("a", [ ])`, `table("a", [] )`, `table("a" [])`, `table "a", []`, ` table("a", [])`, `table("a", []) `,
		`table("a b", [[1,2]])`, `table("a b", [[1 2]])`, `table("a b", [[1, 2],[3, 4]])`, `table("a b", [[1, 2] [3, 4]])`, `table("a b", [[1, 2], [3, 4], ])`, `table("a b", [[1, 2], [3, 4]],)`,
		`table(a, [])`, `table('a', [])`, `table("a, [])`, `table(a", [])`, `table(""a"", [])`, `Table("a", [])`, `tables("a", [])`, `table["a", []]`, `table("a", []))`, `table("a", [])table("a", [])`, `table("a", [])1`,
		`a b; 1 2`, `("a", [])`, `"a", []`,
	} {
		checkRefused(t, s)
	}
}

func TestParseValueRefusesAdditions(t *testing.T) {
	additions := []string{" ", "  ", "\n", "\t", "\x00", "\xff", "\u00e9", "\u00a0", ",", ", ", "(", ")", "()", "[", "]", "[]", "\"", "\"\"", ";", "1", "-", "a", "error", "range", "table", "error type"}
	for _, c := range writtenValues() {
		for _, more := range additions {
			// Some are values again: a number with a digit more, for instance.
			checkStrict(t, c.s+more)
			checkStrict(t, more+c.s)
		}
		checkRefused(t, "("+c.s+")")
		checkRefused(t, c.s+" "+c.s)
		checkRefused(t, c.s+", "+c.s)
	}
	checkRefused(t, "")
	for _, s := range oddStrings() {
		checkStrict(t, s)
	}
}

// strictReader follows the document's description from left to right. The words are matched by regular expressions,
// and nothing is compared with FormatValue, so that it does not repeat a mistake of the program.
type strictReader struct {
	rest string
	bad  bool
}

func (r *strictReader) match(form string) string {
	found := strictForm(form).FindString(r.rest)
	if !strictForm(form).MatchString(r.rest) {
		r.bad = true
	}
	r.rest = r.rest[len(found):]
	return found
}

var strictForms = map[string]*regexp.Regexp{}

func strictForm(form string) *regexp.Regexp {
	if strictForms[form] == nil {
		strictForms[form] = regexp.MustCompile(`\A(?:` + form + `)`)
	}
	return strictForms[form]
}

func (r *strictReader) starts(s string) bool { return strings.HasPrefix(r.rest, s) }

func (r *strictReader) number() int {
	n, _ := strconv.Atoi(r.match(`0|-?[1-9][0-9]*`))
	r.bad = r.bad || n < -1000000000 || n > 1000000000
	return n
}

func (r *strictReader) list(limit int, element func()) {
	r.match(`\[`)
	for i := 0; !r.bad && !r.starts("]"); i++ {
		if i > 0 {
			r.match(", ")
		}
		element()
		r.bad = r.bad || i >= limit
	}
	r.match(`\]`)
}

func (r *strictReader) value(level int) impl.Value {
	r.bad = r.bad || level > 3
	switch {
	case r.bad:
	case r.starts(`"`):
		text := r.match(`"[ !#-~]{0,20}"`)
		return impl.Value{Kind: 2, Text: strings.ReplaceAll(text, `"`, "")}
	case r.starts("["):
		v := impl.Value{Kind: 3}
		r.list(8, func() { v.List = append(v.List, r.value(level+1)) })
		return v
	case r.starts("r") && level == 1:
		return r.stream()
	case r.starts("t") && level == 1:
		return r.table()
	case r.starts("e") && level == 1:
		name := r.match("error (missing|duplicate|cycle|type|range|limit|column|syntax)")
		return impl.Value{Kind: 6, N: 1 + slices.Index(errorNames(), strings.TrimPrefix(name, "error "))}
	}
	return impl.Value{Kind: 1, N: r.number()}
}

func (r *strictReader) stream() impl.Value {
	v := impl.Value{Kind: 4}
	r.match(`range\(`)
	v.N = r.number()
	r.match(", ")
	v.Step = r.number()
	r.match(`\)`)
	return v
}

func (r *strictReader) table() impl.Value {
	v := impl.Value{Kind: 5}
	r.match(`table\("`)
	v.Columns = strings.Fields(r.match(`[a-z][a-z0-9]{0,7}( [a-z][a-z0-9]{0,7}){0,3}`))
	for i, name := range v.Columns {
		r.bad = r.bad || slices.Contains(everyReservedWord(), name) || slices.Index(v.Columns, name) != i
	}
	r.match(`", `)
	r.list(12, func() {
		var row impl.Row
		r.list(4, func() { row.Cells = append(row.Cells, r.number()) })
		r.bad = r.bad || len(row.Cells) != len(v.Columns)
		v.Rows = append(v.Rows, row)
	})
	r.match(`\)`)
	return v
}

func strictValue(s string) (impl.Value, bool) {
	r := strictReader{rest: s}
	v := r.value(1)
	if r.bad || r.rest != "" {
		return impl.Value{}, false
	}
	return v, true
}

func checkStrict(t *testing.T, s string) {
	t.Helper()
	if want, ok := strictValue(s); ok {
		checkAccepted(t, s, want)
	} else {
		checkRefused(t, s)
	}
}

func TestParseValueAllShortStrings(t *testing.T) {
	accepted := 0
	for _, s := range stringsOver(`1-0[], "`, 6) {
		checkStrict(t, s)
		if _, ok := strictValue(s); ok {
			accepted++
		}
	}
	if accepted < 100 {
		t.Errorf("only %d strings are values", accepted)
	}
}

// Every string that differs in one byte from a representation.
func TestParseValueOneMistake(t *testing.T) {
	for _, c := range writtenValues() {
		s := c.s
		if len(s) > 800 {
			continue
		}
		for i := range len(s) + 1 {
			for _, b := range []byte("01-+ ,[]()\"at?\x00\x7f\x80\xff\n") {
				checkStrict(t, s[:i]+string([]byte{b})+s[i:])
				if i < len(s) {
					checkStrict(t, s[:i]+string([]byte{b})+s[i+1:])
				}
			}
			checkStrict(t, s[:i])
			checkStrict(t, s[i:])
			if i < len(s) {
				checkStrict(t, s[:i]+s[i+1:])
				checkStrict(t, s[:i]+s[i:i+1]+s[i:])
			}
			if i+1 < len(s) {
				checkStrict(t, s[:i]+s[i+1:i+2]+s[i:i+1]+s[i+2:])
			}
		}
	}
}

// Words put together at random: more of these than of random bytes are nearly values.
func TestParseValueWords(t *testing.T) {
	words := []string{"1", "-2", "0", "01", `"a"`, `"a b"`, `""`, `"`, "[", "]", "[", "]", "[]", ", ", ", ", ",", " ", "(", ")", "range(", "range", "table(", `table("a", [`, "error ", "type", "missing", "])", "[1]", "\xff"}
	random := rand.New(rand.NewSource(4))
	for range 200000 {
		var s string
		for range 1 + random.Intn(9) {
			s += words[random.Intn(len(words))]
		}
		checkStrict(t, s)
	}
}

// randomValue returns a valid value that may be within lists of this depth.
func randomValue(random *rand.Rand, depth int) impl.Value {
	number := func() int {
		return []int{0, -1, 9, random.Intn(2000000001) - 1000000000, 1000000000, -1000000000}[random.Intn(6)]
	}
	kind := 1 + random.Intn(6)
	if depth > 0 {
		kind = 1 + random.Intn(3)
	}
	switch kind {
	case impl.ValueText:
		text := make([]byte, random.Intn(21))
		for i := range text {
			text[i] = " !#,[]()~-0a"[random.Intn(12)]
		}
		return impl.TextValue(string(text))
	case impl.ValueList:
		v := listOf()
		for range random.Intn(9) {
			if depth < 2 {
				v.List = append(v.List, randomValue(random, depth+1))
			}
		}
		return v
	case impl.ValueStream:
		return impl.StreamValue(number(), number())
	case impl.ValueTable:
		v := tableValue([]string{"b", "a", "abcdefgh", "a1"}[:1+random.Intn(4)])
		for i := range random.Intn(13) {
			row := impl.Row{From: []impl.Origin{{Cell: i}}}
			for range v.Columns {
				row.Cells = append(row.Cells, number())
			}
			v.Rows = append(v.Rows, row)
		}
		return v
	case impl.ValueError:
		return impl.ErrorValue(1 + random.Intn(8))
	}
	return impl.NumberValue(number())
}

func TestParseValueRandomValues(t *testing.T) {
	random := rand.New(rand.NewSource(44))
	for range 20000 {
		v := randomValue(random, 0)
		s := impl.FormatValue(v)
		want, ok := strictValue(s)
		if !ok || !reflect.DeepEqual(normal(want), withoutOrigins(v)) {
			t.Fatalf("FormatValue(%+v) = %q", v, s)
		}
		checkAccepted(t, s, want)
	}
}

// Promise 48: every function is total and does not modify its arguments.

func TestParseValueOfLargeStrings(t *testing.T) {
	const size = 200000
	for _, word := range []string{"[", "]", "[[]", "[]", "[1, ", "1, ", " ", ",", "(", "x", "9", "\"", "\"a\" ", "[\"", "range(", "range ", "error ", "table(", "table(\"a\", [", "table(\"a\", [[", "table [", "table ", "\xff", "\u20ac", "-"} {
		s := strings.Repeat(word, size)
		for _, s := range []string{s, "[" + s, "[[1], " + s + "]", "table(\"a\", [" + s + "])", "\"" + s + "\""} {
			if v, ok := impl.ParseValue(s); ok || !reflect.DeepEqual(normal(v), impl.Value{}) {
				t.Errorf("ParseValue accepts %q, repeated", word)
			}
		}
		if impl.ErrorCode(s) != 0 {
			t.Errorf("ErrorCode of %q, repeated, is not 0", word)
		}
	}
	// Calls inside each other, one for each bracket of these, need more memory than a stack may have.
	for _, open := range []string{"[", "[[1], ", "table(\"a\", [", "table "} {
		if _, ok := impl.ParseValue(strings.Repeat(open, 10000000)); ok {
			t.Errorf("ParseValue accepts %q, repeated", open)
		}
	}
	for _, v := range []impl.Value{nested(size), numbers(make([]int, size)...), impl.TextValue(strings.Repeat("x", size))} {
		if impl.FormatValue(v) != "" {
			t.Error("FormatValue of a large value is not \"\"")
		}
	}
}

func TestParseValueOfRandomBytes(t *testing.T) {
	random := rand.New(rand.NewSource(48))
	for range 50000 {
		s := make([]byte, random.Intn(12))
		for i := range s {
			s[i] = byte(random.Intn(256))
		}
		checkStrict(t, string(s))
	}
}

func TestFormatValueKeepsItsArgument(t *testing.T) {
	for _, sample := range append(append(validValues(), invalidValues()...), fullValue()) {
		v := spacious(sample)
		want := whole(v)
		first := impl.FormatValue(v)
		if !reflect.DeepEqual(whole(v), want) {
			t.Errorf("FormatValue changed %+v to %+v", want, whole(v))
		}
		if got := impl.FormatValue(sample); got != first {
			t.Errorf("FormatValue(%+v) = %q, with spare capacity %q", sample, got, first)
		}
	}
}

// spoilers returns a function for each slice of v that overwrites it, with its unused capacity.
func spoilers(v impl.Value) []func() {
	all := []func(){
		func() { clear(v.List[:cap(v.List)]) },
		func() { clear(v.Columns[:cap(v.Columns)]) },
		func() { clear(v.Rows[:cap(v.Rows)]) },
	}
	for _, r := range v.Rows {
		all = append(all, func() { clear(r.Cells[:cap(r.Cells)]) }, func() { clear(r.From[:cap(r.From)]) })
	}
	for _, element := range v.List {
		all = append(all, spoilers(element)...)
	}
	return all
}

func TestParseValueResultsAreIndependent(t *testing.T) {
	for _, c := range append(writtenValues(),
		written{listOf(numbers(1, 2), numbers(1, 2), listOf(numbers(), numbers())), "[[1, 2], [1, 2], [[], []]]"},
		written{tableValue([]string{"a", "b"}, []int{1, 2}, []int{1, 2}, []int{1, 2}), `table("a b", [[1, 2], [1, 2], [1, 2]])`},
	) {
		first, _ := impl.ParseValue(c.s)
		second, _ := impl.ParseValue(c.s)
		spoil(second)
		if !reflect.DeepEqual(normal(first), normal(c.v)) {
			t.Errorf("ParseValue(%q) changed with another result", c.s)
		}
		checkAccepted(t, c.s, c.v)
		for i := range spoilers(first) {
			v, _ := impl.ParseValue(c.s)
			checkOneSpoiled(t, v, i)
		}
	}
}

// checkOneSpoiled overwrites slice i of v and counts the slices that changed.
func checkOneSpoiled(t *testing.T, v impl.Value, i int) {
	t.Helper()
	views := slicesOf(v)
	var before []any
	for _, view := range views {
		before = append(before, view())
	}
	spoilers(v)[i]()
	changed := 0
	for k, view := range views {
		if !reflect.DeepEqual(view(), before[k]) {
			changed++
		}
	}
	if changed > 1 {
		t.Errorf("%d slices of one result share memory", changed)
	}
}

// slicesOf returns functions that return copies of the slices of v, as they are when they are called.
func slicesOf(v impl.Value) []func() any {
	all := []func() any{
		func() any {
			var kinds []int
			for _, element := range v.List {
				kinds = append(kinds, element.Kind)
			}
			return kinds
		},
		func() any { return slices.Clone(v.Columns) },
		func() any {
			var sizes []int
			for _, r := range v.Rows {
				sizes = append(sizes, len(r.Cells))
			}
			return sizes
		},
	}
	for _, r := range v.Rows {
		all = append(all, func() any { return slices.Clone(r.Cells) }, func() any { return slices.Clone(r.From) })
	}
	for _, element := range v.List {
		all = append(all, slicesOf(element)...)
	}
	return all
}
