package tests

import (
	"math"
	"math/rand"
	"reflect"
	"slices"
	"strconv"
	"strings"
	"testing"

	"loop.example/g00510/impl"
)

// Promise 12: a valid expression is parsed from its source code, if this is not too long.

// codeForm is how a valid expression with something inside is written. An @ stands for its name, and each digit for the
// next one of its Args and the level that is required there.
func codeForm(e impl.Expr) string {
	args := strings.TrimSuffix(strings.Repeat("0, ", len(e.Args)), ", ")
	switch e.Kind {
	case 4:
		return "[" + args + "]"
	case 5:
		return "@(" + args + ")"
	case 7:
		return "let @ = 0 in 0"
	case 8:
		return "if 0 then 0 else 0"
	case 9:
		return "for @ in 0 do 0"
	}
	return []string{1: "2 + 3", 2: "2 - 3", 3: "3 * 4", 4: "2 < 2", 5: "2 == 2"}[e.N]
}

// codeWith writes a valid expression and asks of everything inside whether it is enclosed in parentheses.
func codeWith(e impl.Expr, isEnclosed func(inside impl.Expr, level int) bool) string {
	switch e.Kind {
	case 1:
		return strconv.Itoa(e.N)
	case 2:
		return `"` + e.Text + `"`
	case 3:
		return e.Text
	}
	code, left := "", e.Args
	for _, c := range codeForm(e) {
		switch level := int(c - '0'); {
		case c == '@':
			code += e.Text
		case level < 0 || level > 4:
			code += string(c)
		case isEnclosed(left[0], level):
			code, left = code+"("+codeWith(left[0], isEnclosed)+")", left[1:]
		default:
			code, left = code+codeWith(left[0], isEnclosed), left[1:]
		}
	}
	return code
}

func isEnclosedByRule(inside impl.Expr, level int) bool { return levelMeaning(inside) < level }

// codeMeaning is what FormatExpr should return for a valid expression.
func codeMeaning(e impl.Expr) string { return codeWith(e, isEnclosedByRule) }

// withMoreParentheses returns source code for e with random pairs of parentheses that it does not need.
func withMoreParentheses(random *rand.Rand, e impl.Expr) string {
	return codeWith(e, func(inside impl.Expr, level int) bool {
		return isEnclosedByRule(inside, level) || random.Intn(3) == 0
	})
}

func wordsIn(s string) []string {
	return slices.DeleteFunc(wordForm.FindAllString(s, -1), func(word string) bool { return word == " " })
}

// pairsIn returns the indices of the two parentheses of each pair.
func pairsIn(words []string) [][2]int {
	var open []int
	var pairs [][2]int
	for i, word := range words {
		switch word {
		case "(":
			open = append(open, i)
		case ")":
			last := len(open) - 1
			pairs = append(pairs, [2]int{open[last], i})
			open = open[:last]
		}
	}
	return pairs
}

func withoutPair(words []string, pair [2]int) []string {
	return slices.Concat(words[:pair[0]], words[pair[0]+1:pair[1]], words[pair[1]+1:])
}

func haveMeaning(words []string, e impl.Expr) bool {
	meaning, at := syntaxMeaning(words)
	return at == -1 && spelled(meaning) == spelled(e)
}

// leastWords encloses everything inside e in parentheses and then removes each pair that is not needed. It knows nothing
// of levels.
func leastWords(e impl.Expr) []string {
	words := wordsIn(codeWith(e, func(impl.Expr, int) bool { return true }))
	for i := len(pairsIn(words)) - 1; i >= 0; i-- {
		if fewer := withoutPair(words, pairsIn(words)[i]); haveMeaning(fewer, e) {
			words = fewer
		}
	}
	return words
}

// spacedByRule puts words together with spaces as the document says it of two tokens beside each other.
func spacedByRule(words []string) string {
	var s string
	for i, word := range words {
		if i > 0 {
			before := words[i-1]
			_, isFunction := functionCounts()[before]
			isTogether := before == "(" || before == "[" || word == ")" || word == "]" || word == "," || isFunction && word == "("
			if !isTogether {
				s += " "
			}
		}
		s += word
	}
	return s
}

// fits reports whether source code of a valid expression is short enough to be parsed.
func fits(code string) bool { return len(code) <= 120 && len(wordsIn(code)) <= 60 }

func checkLevel(t *testing.T, want int, all ...impl.Expr) {
	t.Helper()
	for _, e := range all {
		if got := impl.LevelOf(e); got != want {
			t.Errorf("LevelOf(%s) = %d, want %d", shortened(e), got, want)
		}
	}
}

func checkNormalized(t *testing.T, s, want string) {
	t.Helper()
	if got, ok := impl.NormalizeCode(s); got != want || !ok {
		t.Errorf("NormalizeCode(%q) = %q, %v, want %q", s, got, ok, want)
	}
}

func checkNotNormalized(t *testing.T, all ...string) {
	t.Helper()
	for _, s := range all {
		if got, ok := impl.NormalizeCode(s); got != "" || ok {
			t.Errorf("NormalizeCode(%q) = %q, %v", s, got, ok)
		}
	}
}

// checkNormalMeaning compares NormalizeCode with what it means. It returns whether s has no error.
func checkNormalMeaning(t *testing.T, s string) bool {
	t.Helper()
	e, bad := parseMeaning(s)
	if bad >= 0 {
		checkNotNormalized(t, s)
		return false
	}
	checkNormalized(t, s, codeMeaning(e))
	return true
}

// checkCode checks the source code of a valid expression, and that it is parsed and normalized already.
func checkCode(t *testing.T, e impl.Expr, want string) {
	t.Helper()
	if got := impl.FormatExpr(e); got != want {
		t.Errorf("FormatExpr(%s) = %q, want %q", shortened(e), got, want)
	}
	if fits(want) {
		checkParsed(t, want, e)
		checkNormalized(t, want, want)
	} else {
		checkNotNormalized(t, want)
	}
}

func checkCodeMeaning(t *testing.T, all ...impl.Expr) {
	t.Helper()
	for _, e := range all {
		checkCode(t, e, codeMeaning(e))
	}
}

func checkNoCode(t *testing.T, all ...impl.Expr) {
	t.Helper()
	for _, e := range all {
		if got := impl.FormatExpr(e); got != "" {
			t.Errorf("FormatExpr(%s) = %q", shortened(e), got)
		}
	}
}

func TestLevelOfEveryKind(t *testing.T) {
	a, b := ref("a"), ref("b")
	checkLevel(t, 0, let("x", a, b), cond(a, b, a), loop("x", a, b))
	checkLevel(t, 1, oper(4, a, b), oper(5, a, b))
	checkLevel(t, 2, oper(1, a, b), oper(2, a, b))
	checkLevel(t, 3, oper(3, a, b))
	checkLevel(t, 4, num(0), num(7), num(1000000000), lit(""), lit("a < b"), a, list(), list(a, b), call("clock"), call("sum", a))
	for _, name := range everyFunction() {
		checkLevel(t, 4, call(name, ones(functionCounts()[name])...))
	}
	for _, e := range validExprs() {
		checkLevel(t, levelMeaning(e), e)
		for _, slot := range slots() {
			// What is inside does not matter.
			checkLevel(t, levelMeaning(slot(num(1))), slot(e), slot(slot(e)))
		}
	}
}

// The kind alone determines the level, and for an operator its number, whatever else is wrong with the tree.
func TestLevelOfInvalidExprs(t *testing.T) {
	levels := map[int]int{7: 0, 8: 0, 9: 0}
	kinds := []int{-9, -8, -7, -6, -1, 0, 1, 2, 3, 4, 5, 7, 8, 9, 10, 11, 14, 15, 256 + 6, 256 + 7, 1 << 32, 1<<32 + 6, 1<<32 + 8, math.MaxInt, math.MinInt, math.MinInt + 7}
	operators := map[int]int{1: 2, 2: 2, 3: 3, 4: 1, 5: 1}
	for _, n := range append(everyNumberOfAnOperator(), 9, 10, 100) {
		for _, text := range []string{"", "a", "+", "<", "let", "sum", "\xff", strings.Repeat("a", 1000)} {
			for size := range 5 {
				for _, args := range [][]impl.Expr{ones(size), make([]impl.Expr, size), slices.Repeat([]impl.Expr{let("a")}, size)} {
					for _, kind := range kinds {
						want, isLow := levels[kind]
						if !isLow {
							want = 4
						}
						checkLevel(t, want, impl.Expr{Kind: kind, N: n, Text: text, Args: args})
					}
					want, isOperator := operators[n]
					if !isOperator {
						want = 4
					}
					checkLevel(t, want, impl.Expr{Kind: 6, N: n, Text: text, Args: args})
				}
			}
		}
	}
	checkLevel(t, 4, impl.Expr{}, impl.Expr{N: 4}, impl.Expr{Kind: 1, N: -1}, impl.Expr{Kind: 4, Args: ones(100)}, call("let"), call("if", num(1)), ref("let"), ref("for"))
}

func TestFormatExprKnown(t *testing.T) {
	a, b, c, d := ref("a"), ref("b"), ref("c"), ref("d")
	checkCode(t, oper(2, oper(3, oper(1, num(1), num(2)), num(3)), call("sum", list(a, num(4)))), "(1 + 2) * 3 - sum([a, 4])")
	checkCode(t, oper(2, a, oper(2, b, c)), "a - (b - c)")
	checkCode(t, oper(2, oper(2, a, b), c), "a - b - c")
	checkCode(t, oper(1, a, oper(1, b, c)), "a + (b + c)")
	checkCode(t, oper(3, a, oper(3, b, c)), "a * (b * c)")
	checkCode(t, oper(3, oper(3, a, b), c), "a * b * c")
	checkCode(t, oper(2, oper(1, a, b), oper(1, c, d)), "a + b - (c + d)")
	checkCode(t, oper(5, oper(4, a, b), c), "(a < b) == c")
	checkCode(t, oper(4, a, oper(4, b, c)), "a < (b < c)")
	checkCode(t, oper(5, oper(1, a, b), oper(2, c, d)), "a + b == c - d")
	checkCode(t, oper(4, oper(3, a, b), oper(1, c, oper(3, c, d))), "a * b < c + c * d")
	checkCode(t, oper(1, oper(3, a, b), oper(3, c, d)), "a * b + c * d")
	checkCode(t, oper(3, oper(1, a, b), oper(2, c, d)), "(a + b) * (c - d)")
	checkCode(t, oper(1, let("x", a, b), oper(3, cond(a, b, c), loop("x", a, b))), "(let x = a in b) + (if a then b else c) * (for x in a do b)")
	checkCode(t, oper(5, oper(4, num(1), num(2)), let("x", num(1), ref("x"))), "(1 < 2) == (let x = 1 in x)")
	checkCode(t, let("x", num(12), oper(3, ref("x"), ref("x"))), "let x = 12 in x * x")
	checkCode(t, let("x", let("y", a, b), cond(oper(4, a, b), loop("z", a, b), let("x", c, d))), "let x = let y = a in b in if a < b then for z in a do b else let x = c in d")
	checkCode(t, cond(cond(a, b, c), oper(5, a, b), cond(a, b, oper(1, c, d))), "if if a then b else c then a == b else if a then b else c + d")
	checkCode(t, loop("x", call("take", num(3), ref("s")), oper(5, ref("x"), lit("x"))), `for x in take(3, s) do x == "x"`)
	checkCode(t, call("table", lit("a b"), list(list(num(1), num(2)), list(num(3), num(4)))), `table("a b", [[1, 2], [3, 4]])`)
	checkCode(t, list(let("x", a, b), oper(4, a, b), list(), call("clock")), "[let x = a in b, a < b, [], clock()]")
	checkCode(t, cond(oper(4, a, num(1)), list(), lit("b")), `if a < 1 then [] else "b"`)
}

func TestFormatExprAtoms(t *testing.T) {
	for _, n := range []int{0, 1, 2, 9, 10, 99, 100, 999999, 1000000, 123456789, 999999999, 1000000000} {
		checkCode(t, num(n), strconv.Itoa(n))
	}
	for b := 32; b <= 126; b++ {
		one := string(rune(b))
		for _, s := range []string{one, "a" + one, one + "a", "a" + one + "b", one + one, one + " " + one, strings.Repeat(one, 20)} {
			if b == '"' {
				checkNoCode(t, lit(s), list(lit(s)))
				continue
			}
			checkCode(t, lit(s), `"`+s+`"`)
			checkCode(t, list(lit(s), lit(s)), `["`+s+`", "`+s+`"]`)
			checkCode(t, oper(1, oper(2, lit(s), num(1)), oper(2, lit(s), num(1))), `"`+s+`" - 1 + ("`+s+`" - 1)`)
		}
	}
	// Nothing in a text is a token of the source code.
	for _, s := range []string{"", " ", "  ", "a  b", " ( a , b ) ", "( [ ] )", "((a))", "[ ", " ]", " ,", "sum (", "let x = 1 in x", "1 + (2 + 3)", "a<b", "%s\\n", "// a", strings.Repeat(" ", 20), strings.Repeat("(", 20)} {
		checkCode(t, lit(s), `"`+s+`"`)
		checkCode(t, call("len", lit(s)), `len("`+s+`")`)
		checkCode(t, oper(3, oper(5, lit(s), lit(s)), lit(s)), `("`+s+`" == "`+s+`") * "`+s+`"`)
	}
	for _, s := range []string{"a", "z", "x1", "a0", "abcdefgh", "z2345678", "lets", "inn", "sums", "clocks", "i", "rangee"} {
		checkCode(t, ref(s), s)
		checkCode(t, let(s, ref(s), ref(s)), "let "+s+" = "+s+" in "+s)
		checkCode(t, loop(s, ref(s), ref(s)), "for "+s+" in "+s+" do "+s)
		checkCode(t, oper(3, ref(s), oper(1, ref(s), ref(s))), s+" * ("+s+" + "+s+")")
	}
	for _, name := range everyFunction() {
		count := functionCounts()[name]
		checkCode(t, call(name, ones(count)...), name+"("+strings.Join(slices.Repeat([]string{"1"}, count), ", ")+")")
	}
	for size := range 9 {
		checkCode(t, list(ones(size)...), "["+strings.Join(slices.Repeat([]string{"1"}, size), ", ")+"]")
	}
}

// codePlace is a place inside another expression: its source code with a % there, and the level that is required.
type codePlace struct {
	code   string
	level  int
	around func(e impl.Expr) impl.Expr
}

func (p codePlace) with(code string, level int) string {
	if level < p.level {
		code = "(" + code + ")"
	}
	return strings.Replace(p.code, "%", code, 1)
}

// mainPlaces are the places of every kind, and one in a list and in a call.
func mainPlaces() []codePlace {
	one := num(1)
	all := []codePlace{
		{"let x = % in 1", 0, func(e impl.Expr) impl.Expr { return let("x", e, one) }},
		{"let x = 1 in %", 0, func(e impl.Expr) impl.Expr { return let("x", one, e) }},
		{"for x in % do 1", 0, func(e impl.Expr) impl.Expr { return loop("x", e, one) }},
		{"for x in 1 do %", 0, func(e impl.Expr) impl.Expr { return loop("x", one, e) }},
		{"if % then 1 else 1", 0, func(e impl.Expr) impl.Expr { return cond(e, one, one) }},
		{"if 1 then % else 1", 0, func(e impl.Expr) impl.Expr { return cond(one, e, one) }},
		{"if 1 then 1 else %", 0, func(e impl.Expr) impl.Expr { return cond(one, one, e) }},
		{"[%]", 0, func(e impl.Expr) impl.Expr { return list(e) }},
		{"sum(%)", 0, func(e impl.Expr) impl.Expr { return call("sum", e) }},
	}
	for _, o := range []struct {
		op          int
		symbol      string
		left, right int
	}{{1, "+", 2, 3}, {2, "-", 2, 3}, {3, "*", 3, 4}, {4, "<", 2, 2}, {5, "==", 2, 2}} {
		all = append(all,
			codePlace{"% " + o.symbol + " 1", o.left, func(e impl.Expr) impl.Expr { return oper(o.op, e, one) }},
			codePlace{"1 " + o.symbol + " %", o.right, func(e impl.Expr) impl.Expr { return oper(o.op, one, e) }},
		)
	}
	return all
}

// everyPlace are these, and each place in lists of all lengths and in calls of all functions.
func everyPlace() []codePlace {
	all := mainPlaces()
	add := func(before, after string, size int, around func(args ...impl.Expr) impl.Expr) {
		for i := range size {
			words := slices.Repeat([]string{"1"}, size)
			words[i] = "%"
			all = append(all, codePlace{before + strings.Join(words, ", ") + after, 0, func(e impl.Expr) impl.Expr {
				args := ones(size)
				args[i] = e
				return around(args...)
			}})
		}
	}
	for size := range 9 {
		add("[", "]", size, list)
	}
	for _, name := range everyFunction() {
		add(name+"(", ")", functionCounts()[name], func(args ...impl.Expr) impl.Expr { return call(name, args...) })
	}
	return all
}

type codeExample struct {
	code  string
	level int
	e     impl.Expr
}

// codeExamples are expressions of every level, none of which has parentheses.
func codeExamples() []codeExample {
	a, b, c := ref("a"), ref("b"), ref("c")
	return []codeExample{
		{"let y = a in b", 0, let("y", a, b)},
		{"if a then b else c", 0, cond(a, b, c)},
		{"for y in a do b", 0, loop("y", a, b)},
		{"let y = a in b == c", 0, let("y", a, oper(5, b, c))},
		{"if a < b then c else a * b", 0, cond(oper(4, a, b), c, oper(3, a, b))},
		{"a < b", 1, oper(4, a, b)},
		{"a == b", 1, oper(5, a, b)},
		{"a + b == b * c", 1, oper(5, oper(1, a, b), oper(3, b, c))},
		{"a + b", 2, oper(1, a, b)},
		{"a - b", 2, oper(2, a, b)},
		{"a - b + c", 2, oper(1, oper(2, a, b), c)},
		{"a - b * c", 2, oper(2, a, oper(3, b, c))},
		{"a * b", 3, oper(3, a, b)},
		{"a * b * c", 3, oper(3, oper(3, a, b), c)},
		{"1000000000", 4, num(1000000000)},
		{`"a (b"`, 4, lit("a (b")},
		{"a", 4, a},
		{"[]", 4, list()},
		{"[a, b < c]", 4, list(a, oper(4, b, c))},
		{"clock()", 4, call("clock")},
		{"take(a - b, [c])", 4, call("take", oper(2, a, b), list(c))},
	}
}

// At each place stand expressions of the required level, of one less and of one more.
func TestFormatExprEveryPlace(t *testing.T) {
	for _, x := range codeExamples() {
		checkLevel(t, x.level, x.e)
		checkCode(t, x.e, x.code)
		for _, p := range everyPlace() {
			checkCode(t, p.around(x.e), p.with(x.code, x.level))
		}
	}
}

func TestFormatExprPlacesInsideEachOther(t *testing.T) {
	for _, x := range codeExamples() {
		for _, inner := range mainPlaces() {
			e, code := inner.around(x.e), inner.with(x.code, x.level)
			for _, outer := range mainPlaces() {
				checkCode(t, outer.around(e), outer.with(code, levelMeaning(e)))
			}
		}
	}
}

// Two places of an expression do not affect each other.
func TestFormatExprTwoOperands(t *testing.T) {
	symbols := strings.Fields("+ - * < ==")
	levels := [][2]int{{2, 3}, {2, 3}, {3, 4}, {2, 2}, {2, 2}}
	for _, x := range codeExamples() {
		for _, y := range codeExamples() {
			for i, symbol := range symbols {
				left, right := codePlace{code: "%", level: levels[i][0]}, codePlace{code: "%", level: levels[i][1]}
				checkCode(t, oper(i+1, x.e, y.e), left.with(x.code, x.level)+" "+symbol+" "+right.with(y.code, y.level))
			}
			checkCode(t, let("x", x.e, y.e), "let x = "+x.code+" in "+y.code)
			checkCode(t, loop("x", x.e, y.e), "for x in "+x.code+" do "+y.code)
			checkCode(t, cond(x.e, y.e, x.e), "if "+x.code+" then "+y.code+" else "+x.code)
			checkCode(t, list(x.e, y.e), "["+x.code+", "+y.code+"]")
			checkCode(t, call("nth", x.e, y.e), "nth("+x.code+", "+y.code+")")
		}
	}
}

// operatorTrees returns all trees with this many operators.
func operatorTrees(operators int) []impl.Expr {
	if operators == 0 {
		return []impl.Expr{ref("a")}
	}
	var all []impl.Expr
	for left := range operators {
		for _, x := range operatorTrees(left) {
			for _, y := range operatorTrees(operators - 1 - left) {
				for op := 1; op <= 5; op++ {
					all = append(all, oper(op, x, y))
				}
			}
		}
	}
	return all
}

func TestFormatExprAllOperatorTrees(t *testing.T) {
	for operators := range 5 {
		for _, e := range operatorTrees(operators) {
			checkCodeMeaning(t, e)
			if operators <= 3 {
				checkCode(t, e, spacedByRule(leastWords(e)))
			}
		}
	}
}

func TestFormatExprSpaces(t *testing.T) {
	a := ref("a")
	checkCode(t, list(list(), list(list()), list(list(), list())), "[[], [[]], [[], []]]")
	checkCode(t, list(call("clock"), list(call("clock"), call("clock"))), "[clock(), [clock(), clock()]]")
	checkCode(t, call("sum", call("sum", call("sum", list()))), "sum(sum(sum([])))")
	checkCode(t, call("add", list(), call("clock"), a, lit("")), `add([], clock(), a, "")`)
	checkCode(t, oper(3, oper(3, a, oper(1, a, oper(2, a, a))), oper(4, a, a)), "a * (a + (a - a)) * (a < a)")
	checkCode(t, oper(2, oper(3, oper(2, oper(1, a, a), a), a), a), "(a + a - a) * a - a")
	checkCode(t, oper(3, oper(5, oper(4, a, a), a), a), "((a < a) == a) * a")
	checkCode(t, list(oper(3, oper(1, a, a), a), oper(3, a, oper(1, a, a))), "[(a + a) * a, a * (a + a)]")
	checkCode(t, call("take", oper(3, oper(1, a, a), a), oper(3, a, oper(1, a, a))), "take((a + a) * a, a * (a + a))")
	checkCode(t, cond(oper(3, oper(1, a, a), a), list(), oper(3, let("x", a, a), a)), "if (a + a) * a then [] else (let x = a in a) * a")
	checkCode(t, let("x", oper(3, oper(1, a, a), a), oper(4, loop("x", list(a), a), a)), "let x = (a + a) * a in (for x in [a] do a) < a")
	checkCode(t, loop("x", oper(3, oper(1, a, a), a), oper(3, call("sum", list()), oper(1, a, list()))), "for x in (a + a) * a do sum([]) * (a + [])")
	checkCode(t, oper(3, list(oper(1, a, a)), oper(1, list(), call("clock"))), "[a + a] * ([] + clock())")
	for _, e := range validExprs() {
		for _, slot := range slots() {
			code := impl.FormatExpr(slot(e))
			if words := wordsIn(code); code != spacedByRule(words) {
				t.Errorf("FormatExpr(%s) = %q does not have the spaces of %q", shortened(slot(e)), code, spacedByRule(words))
			}
		}
	}
}

func TestFormatExprValidExprs(t *testing.T) {
	for _, e := range validExprs() {
		checkCodeMeaning(t, e)
		checkCode(t, e, spacedByRule(leastWords(e)))
		for _, slot := range slots() {
			checkCodeMeaning(t, slot(e), slot(slot(e)))
		}
	}
}

func TestFormatExprInvalid(t *testing.T) {
	checkNoCode(t, impl.Expr{})
	checkNoCode(t, invalidParts()...)
	for _, bad := range invalidParts() {
		for _, slot := range slots() {
			checkNoCode(t, slot(bad), slot(slot(bad)))
		}
		checkNoCode(t, everywhere(filled(12), func(x *impl.Expr) { *x = bad })...)
	}
	for _, e := range validExprs() {
		for kind := -2; kind < 13; kind++ {
			x := e
			x.Kind = kind
			if exprMeaning(x) {
				checkCodeMeaning(t, x)
			} else {
				checkNoCode(t, x, list(x), oper(1, num(1), x))
			}
		}
		for _, edit := range exprEdits() {
			for _, x := range everywhere(e, edit) {
				if exprMeaning(x) {
					checkCodeMeaning(t, x)
				} else {
					checkNoCode(t, x)
				}
			}
		}
	}
	for name, count := range functionCounts() {
		for size := range 7 {
			if size != count {
				checkNoCode(t, call(name, ones(size)...), list(call(name, ones(size)...)))
			}
		}
	}
	for size := range 7 {
		if size != 2 {
			checkNoCode(t, oper(1, ones(size)...), oper(3, ones(size)...), oper(4, ones(size)...), let("x", ones(size)...), loop("x", ones(size)...))
		}
		if size != 3 {
			checkNoCode(t, cond(ones(size)...))
		}
		checkNoCode(t, list(ones(9+size)...), impl.Expr{Kind: 1, Args: ones(1 + size)}, impl.Expr{Kind: 3, Text: "a", Args: ones(1 + size)})
	}
	for _, op := range noOperators() {
		checkNoCode(t, oper(op, num(1), num(1)), oper(3, oper(op, num(1), num(1)), num(1)))
	}
	for _, s := range slices.Concat(oddStrings(), everyReservedWord()) {
		checkNoCode(t, let(s, num(1), num(1)), loop(s, num(1), num(1)), ref(s))
	}
}

// As many nodes and as deep a nesting as permitted, and one more.
func TestFormatExprLimits(t *testing.T) {
	for nodes := 1; nodes < 50; nodes++ {
		e := filled(nodes)
		if nodes <= 40 {
			checkCodeMeaning(t, e)
		} else {
			checkNoCode(t, e)
		}
	}
	for _, slot := range slots() {
		for nesting := 1; nesting < 12; nesting++ {
			e := chainOf(slot, nesting)
			if nesting <= 8 {
				checkCodeMeaning(t, e)
			} else {
				checkNoCode(t, e, list(e))
			}
		}
	}
	random := rand.New(rand.NewSource(12))
	atLimit := 0
	for range 300 {
		e := randomGrown(random, 38+random.Intn(5), 7+random.Intn(3))
		if !exprMeaning(e) {
			checkNoCode(t, e)
			continue
		}
		checkCodeMeaning(t, e)
		if len(partsOf(e)) == 40 || nestingMeaning(e) == 8 {
			atLimit++
		}
	}
	if atLimit < 50 {
		t.Errorf("only %d expressions are at a limit", atLimit)
	}
}

// What is too large to be looked at as a whole, or endless, has a level but no source code.
func TestFormatExprEndsForLargeExprs(t *testing.T) {
	self := make([]impl.Expr, 2)
	self[0], self[1] = num(1), impl.Expr{Kind: 6, N: 3, Args: self}
	twice := num(1)
	for range 60 {
		twice = oper(3, twice, twice)
	}
	for i, e := range []impl.Expr{
		self[1], {Kind: 6, N: 3, Args: self[1:]}, twice, oper(3, twice, self[1]), chainOf(func(e impl.Expr) impl.Expr { return oper(3, e, num(1)) }, 300000), oper(3, list(ones(300000)...), num(1)),
	} {
		if level, code := impl.LevelOf(e), impl.FormatExpr(e); level != 3 || code != "" {
			t.Errorf("large expression %d has the level %d and source code of %d bytes", i, level, len(code))
		}
	}
}

// Source code of each length around MaxCode, and with each number of tokens around MaxTokens.
func TestFormatExprTooLongToBeParsed(t *testing.T) {
	lengths := map[int]bool{}
	for size := range 21 {
		for _, name := range []string{"a", "ab", "abcdefgh"} {
			e := list(lit(strings.Repeat("x", 20)), lit(strings.Repeat("(", 20)), lit(strings.Repeat(" ", 20)), lit(strings.Repeat("~", 20)), lit(strings.Repeat("y", size)), ref(name))
			code := codeMeaning(e)
			checkCode(t, e, code)
			if lengths[len(code)] = true; len(code) > 120 {
				checkNotParsed(t, code, 120)
			}
		}
	}
	counts := map[int]bool{}
	for size := range 9 {
		for _, more := range [][]impl.Expr{nil, {list()}, {num(1)}, {list(), num(1)}, {oper(1, num(1), num(1))}, {call("sum", list())}} {
			e := list(append([]impl.Expr{list(ones(8)...), list(ones(8)...), list(ones(size)...), list(ones(3)...)}, more...)...)
			code := codeMeaning(e)
			tokens := wordsIn(code)
			if len(code) > 120 || len(partsOf(e)) > 40 {
				continue
			}
			checkCode(t, e, code)
			if counts[len(tokens)] = true; len(tokens) > 60 {
				// The offset is that of the first token that is one too many.
				rest := spacedByRule(tokens[:61])
				checkNotParsed(t, code, len(rest)-len(tokens[60]))
			}
		}
	}
	for _, size := range []int{119, 120, 121, 122} {
		if !lengths[size] {
			t.Errorf("no source code has %d bytes", size)
		}
	}
	for _, size := range []int{59, 60, 61, 62} {
		if !counts[size] {
			t.Errorf("no source code has %d tokens", size)
		}
	}
	wide := list(slices.Repeat([]impl.Expr{oper(1, lit(strings.Repeat("x", 20)), oper(1, ref("abcdefgh"), num(1000000000)))}, 7)...)
	checkCode(t, wide, "["+strings.TrimSuffix(strings.Repeat(`"xxxxxxxxxxxxxxxxxxxx" + (abcdefgh + 1000000000), `, 7), ", ")+"]")
}

func TestNormalizeCodeKnown(t *testing.T) {
	for s, want := range map[string]string{
		"1": "1", " 1 ": "1", "(1)": "1", " ( ( 1 ) ) ": "1", "a": "a", "(((((a)))))": "a", `("a b")`: `"a b"`, `"( a )"`: `"( a )"`, "[ ]": "[]", "[((a)),(b)]": "[a, b]", "clock ( )": "clock()", "(sum)": "", "sum ( (a) )": "sum(a)",
		"(1+2)*3-sum([a,4])": "(1 + 2) * 3 - sum([a, 4])", "a-(b-c)": "a - (b - c)", "(a-b)-c": "a - b - c", "((a)-((b)-(c)))": "a - (b - c)", "a*(b*c)": "a * (b * c)", "(a*b)*c": "a * b * c", "(a*b)+(c*d)": "a * b + c * d",
		"(a+b)==(c-d)": "a + b == c - d", "(a<b)==c": "(a < b) == c", "a<(b==c)": "a < (b == c)", "(a<b)": "a < b", "((a)<(b))": "a < b", "a+(b*c)": "a + b * c", "(a+b)+(c+d)": "a + b + (c + d)", "(a*b)*(c*d)": "a * b * (c * d)",
		"let x=(1)in(x)": "let x = 1 in x", "(let x=1 in x)": "let x = 1 in x", "1+(let x=1 in(x))": "1 + (let x = 1 in x)", "for u in v do (u)": "for u in v do u", "if(a)then(b)else(c)": "if a then b else c",
		"if(if a then b else c)then(a<b)else(let x=a in b)": "if if a then b else c then a < b else let x = a in b", "[(a<b),(if a then b else c)]": "[a < b, if a then b else c]", "take((a+b),(for x in y do z))": "take(a + b, for x in y do z)",
		"1 2": "", "1 +": "", "": "", "   ": "", "$": "", "sum(1, 2)": "", "(a": "", "a)": "",
	} {
		if want == "" {
			checkNotNormalized(t, s)
		} else {
			checkNormalized(t, s, want)
			checkNormalized(t, want, want)
		}
		checkNormalMeaning(t, s)
	}
}

// Strings with an error of each kind.
func TestNormalizeCodeErrors(t *testing.T) {
	checkNotNormalized(t,
		"A", "\n", "\x00", "a\n", "a\t+ b", "\xff", "1 + $", "007", "00", "1000000001", "abcdefghi", "12345678901234567890", "\"a", "\"", `"a" + "`, "\"\n\"", "\"\xff\"", `"`+strings.Repeat("a", 21)+`"`,
		strings.Repeat(" ", 121), "1"+strings.Repeat(" ", 120), strings.Repeat("(", 30)+"a"+strings.Repeat(")", 30), strings.Repeat("a", 121),
		"", " ", "+", "1 + ", "1 2", "a b", "1 < 2 < 3", "a == b == c", "-1", "1 - -1", "[1,]", "[,1]", "[1 2]", "[", "]", "()", "(a", "a)", "(a]", "f(1)", "sum", "sum + 1", "sum(", "sum(1", "sum(1,)", "sum 1", "sum[1]",
		"let", "let x", "let x = 1", "let x = 1 in", "let let = 1 in 2", "let sum = 1 in 2", "let 1 = 1 in 2", "let x == 1 in 2", "if a", "if a then b", "if a then b else", "for x in a", "for x do a", "for in in a do b", "for x in a do", "1 + let x = 1 in x", "a = b", "a, b", "in", "then", "else", "do", "if a then b else c else d",
		"sum()", "sum(1, 2)", "clock(1)", "add(1, 2, 3)", "nth(1)", "[1, 1, 1, 1, 1, 1, 1, 1, 1]", "[sum()]", "1 + clock(1)", "let x = sum() in x", "a+a+a+a+a+a+a+a+a", "[[[[[[[[1]]]]]]]]", listOfNodes(41),
	)
	for _, word := range everyReservedWord() {
		checkNotNormalized(t, word, "let "+word+" = 1 in 1", "for "+word+" in 1 do 1")
	}
	for _, s := range slices.Concat(oddStrings(), tokenSources(), syntaxSources()) {
		for i := range min(len(s), 130) {
			checkNormalMeaning(t, s[:i])
			checkNormalMeaning(t, s[i:])
		}
		checkNormalMeaning(t, s)
	}
}

// The normalized code may be longer than what can be parsed: it is returned all the same.
func TestNormalizeCodeGrows(t *testing.T) {
	lengths := map[int]bool{}
	for first := 10; first <= 20; first++ {
		for last := 15; last <= 20; last++ {
			words := []string{`"` + strings.Repeat("x", first) + `"`}
			for range 3 {
				words = append(words, `"`+strings.Repeat("+", 20)+`"`)
			}
			words = append(words, `"`+strings.Repeat("y", last)+`"`, "abcde")
			s, want := strings.Join(words, "+"), strings.Join(words, " + ")
			if len(s) > 120 {
				t.Fatalf("%q is too long itself", s)
			}
			checkNormalized(t, s, want)
			checkNormalized(t, s+strings.Repeat(" ", 120-len(s)), want)
			checkNotNormalized(t, s+strings.Repeat(" ", 121-len(s)))
			if lengths[len(want)] = true; len(want) <= 120 {
				checkNormalized(t, want, want)
			} else {
				checkNotNormalized(t, want)
			}
		}
	}
	if !lengths[120] || !lengths[121] || !lengths[130] {
		t.Errorf("the lengths of the normalized codes are %v", lengths)
	}
}

// Parentheses that are not needed are tokens until they are removed.
func TestNormalizeCodeManyParentheses(t *testing.T) {
	for size := range 40 {
		for s, want := range map[string]string{"a": "a", "a*b": "a * b", "let x=a in x": "let x = a in x", "[]": "[]"} {
			tokens := len(wordsIn(s))
			s = strings.Repeat("(", size) + s + strings.Repeat(")", size)
			if 2*size+tokens <= 60 {
				checkNormalized(t, s, want)
			} else {
				checkNotNormalized(t, s)
			}
			if 2*size+tokens+4 <= 60 {
				checkNormalized(t, "["+s+",a]", "["+want+", a]")
			}
		}
	}
}

func TestNormalizeCodeAllShortStrings(t *testing.T) {
	accepted := 0
	for _, s := range slices.Concat(stringsOver("a1+<(", 5), stringsOver("a)(*-", 6), stringsOver("a[],", 6), stringsOver("1*-= ", 5), stringsOver("a\"( )", 5)) {
		if checkNormalMeaning(t, s) {
			accepted++
		}
	}
	if accepted < 300 {
		t.Errorf("only %d strings have no error", accepted)
	}
}

func TestNormalizeCodeRandomCode(t *testing.T) {
	random := rand.New(rand.NewSource(1212))
	others := slices.Concat(everySymbol(), everyReservedWord()[:8], []string{"clock", "a", "0", `"("`, "00", "$"})
	accepted, refused := 0, 0
	for range 4000 {
		words := randomWords(random, "Expr", random.Intn(35))
		i := random.Intn(len(words))
		changed := slices.Replace(slices.Clone(words), i, i+1, others[random.Intn(len(others))])
		for _, s := range []string{spacedWords(random, words, random.Intn(3)), spacedWords(random, changed, random.Intn(2))} {
			if checkNormalMeaning(t, s) {
				accepted++
			} else {
				refused++
			}
		}
	}
	if accepted < 1500 || refused < 3000 {
		t.Errorf("%d accepted, %d refused: too few to mean anything", accepted, refused)
	}
}

// randomForFormat is a random valid expression, most of which have source code that is not too long.
func randomForFormat(random *rand.Rand) impl.Expr {
	switch random.Intn(8) {
	case 0:
		return randomGrown(random, 20+random.Intn(21), 4+random.Intn(5))
	case 1:
		return randomOperators(random, 2+random.Intn(8), 7)
	}
	return randomWhole(random, 1+random.Intn(28), 1+random.Intn(8))
}

// randomOperators returns an expression with this many operators at most, and sometimes a let, an if or a for inside.
func randomOperators(random *rand.Rand, operators, nesting int) impl.Expr {
	if operators == 0 || nesting == 1 {
		return ref([]string{"a", "b", "c"}[random.Intn(3)])
	}
	left := random.Intn(operators)
	x, y := randomOperators(random, left, nesting-1), randomOperators(random, operators-1-left, nesting-1)
	switch random.Intn(12) {
	case 0:
		return let("x", x, y)
	case 1:
		return loop("x", x, y)
	case 2:
		return cond(x, y, ref("a"))
	}
	return oper(1+random.Intn(5), x, y)
}

// Promise 12 itself.
func TestFormattedExprsAreParsed(t *testing.T) {
	random := rand.New(rand.NewSource(121212))
	parsed, tooLong := 0, 0
	for range 8000 {
		e := randomForFormat(random)
		code := impl.FormatExpr(e)
		if code != codeMeaning(e) {
			t.Errorf("FormatExpr(%s) = %q, want %q", shortened(e), code, codeMeaning(e))
		}
		got, bad := impl.ParseExpr(code)
		if !fits(code) {
			tooLong++
			if bad < 0 {
				t.Errorf("%q is parsed", code)
			}
			continue
		}
		parsed++
		if bad != -1 || !impl.EqualExpr(got, e) || spelled(got) != spelled(e) {
			t.Errorf("%q is parsed as %s, %d, not as %s", code, shortened(got), bad, shortened(e))
		}
	}
	if parsed < 5000 || tooLong < 500 {
		t.Errorf("%d parsed, %d too long: too few to mean anything", parsed, tooLong)
	}
}

// No other source code has fewer parentheses: without any pair, also that of a call, it is another one or an error.
func TestFormattedExprsNeedAllParentheses(t *testing.T) {
	random := rand.New(rand.NewSource(12121212))
	pairs, tooLong := 0, 0
	for range 3000 {
		e := randomForFormat(random)
		code := impl.FormatExpr(e)
		words := wordsIn(code)
		if !haveMeaning(words, e) || code != spacedByRule(words) {
			t.Errorf("FormatExpr(%s) = %q", shortened(e), code)
		}
		for _, pair := range pairsIn(words) {
			pairs++
			fewer := withoutPair(words, pair)
			if haveMeaning(fewer, e) {
				t.Errorf("FormatExpr(%s) = %q means the same as %q", shortened(e), code, strings.Join(fewer, " "))
			}
			if !fits(code) {
				tooLong++
				continue
			}
			for _, s := range []string{spacedByRule(fewer), strings.Join(fewer, " "), spacedWords(random, fewer, 0)} {
				if got, bad := impl.ParseExpr(s); bad == -1 && impl.EqualExpr(got, e) {
					t.Errorf("%q and %q are parsed as the same expression", code, s)
				}
			}
		}
	}
	if pairs-tooLong < 1500 || tooLong < 500 {
		t.Errorf("%d pairs, %d in source code that is too long: too few to mean anything", pairs, tooLong)
	}
}

// The source code is found without levels.
func TestFormattedExprsAreShortest(t *testing.T) {
	random := rand.New(rand.NewSource(122))
	for range 400 {
		e := randomWhole(random, 1+random.Intn(16), 1+random.Intn(8))
		if random.Intn(2) == 0 {
			e = randomOperators(random, 2+random.Intn(6), 8)
		}
		checkCode(t, e, spacedByRule(leastWords(e)))
	}
}

func TestNormalizeCodeIsIdempotent(t *testing.T) {
	random := rand.New(rand.NewSource(1222))
	again, grown := 0, 0
	for range 6000 {
		e := randomForFormat(random)
		words := wordsIn(withMoreParentheses(random, e))
		s := spacedWords(random, words, random.Intn(3))
		if !fits(s) {
			s = spacedWords(random, wordsIn(codeMeaning(e)), 0)
		}
		if !fits(s) {
			checkNotNormalized(t, s)
			continue
		}
		checkNormalized(t, s, codeMeaning(e))
		once, _ := impl.NormalizeCode(s)
		if len(wordsIn(once)) > len(wordsIn(s)) {
			t.Errorf("NormalizeCode(%q) = %q has more tokens", s, once)
		}
		if len(once) > 120 {
			grown++
			checkNotNormalized(t, once)
			continue
		}
		again++
		checkNormalized(t, once, once)
		checkParsed(t, once, e)
	}
	if again < 3000 || grown < 10 {
		t.Errorf("%d normalized twice, %d too long then: too few to mean anything", again, grown)
	}
}

// Equal expressions, and only these, have equal source code.
func TestFormatExprTellsExprsApart(t *testing.T) {
	all := slices.Concat(validExprs(), operatorTrees(1), operatorTrees(2), operatorTrees(3))
	for _, x := range codeExamples() {
		for _, p := range mainPlaces() {
			all = append(all, p.around(x.e))
		}
	}
	random := rand.New(rand.NewSource(12222))
	for range 2000 {
		all = append(all, randomForFormat(random))
	}
	exprs := map[string]string{}
	for _, e := range all {
		code := impl.FormatExpr(e)
		if other, isKnown := exprs[code]; isKnown && other != spelled(e) {
			t.Errorf("%q is the source code of %s and of %s", code, shortened(e), other)
		}
		exprs[code] = spelled(e)
	}
}

// Promise 48: every function is total and does not modify its arguments.

func TestFormatFunctionsKeepTheirArguments(t *testing.T) {
	all := append(slices.Concat(validExprs(), invalidParts(), operatorTrees(2)), filled(40), filled(41), chainOf(slots()[0], 8), chainOf(slots()[6], 9))
	for _, x := range codeExamples() {
		all = append(all, x.e)
	}
	for _, e := range all {
		want := ""
		if exprMeaning(e) {
			want = codeMeaning(e)
		}
		x := spaciousExpr(e)
		before := wholeExpr(x)
		level, code := impl.LevelOf(x), impl.FormatExpr(x)
		if code != want || level != impl.LevelOf(e) {
			t.Errorf("FormatExpr(%s) = %q, want %q, with unused capacity", shortened(e), code, want)
		}
		if !reflect.DeepEqual(wholeExpr(x), before) {
			t.Errorf("an argument of %s was changed", shortened(e))
		}
		// The result does not change with the argument.
		fillSpare(x)
		for _, part := range partsOf(x) {
			clear(part.Args)
		}
		if code != want {
			t.Errorf("the source code %q of %s changed with it", code, shortened(e))
		}
	}
}

// Equal calls have equal results, whatever was called before, and also for Args that share memory.
func TestFormatFunctionsKeepNoState(t *testing.T) {
	for _, x := range codeExamples() {
		for _, y := range codeExamples() {
			shared := []impl.Expr{x.e, y.e, x.e}
			both := oper(2, shared[:2]...)
			other := list(both, impl.Expr{Kind: 4, Args: shared[1:]})
			for range 2 {
				checkCodeMeaning(t, both, other)
				checkNoCode(t, oper(2, shared...), impl.Expr{Kind: 1, Args: shared})
				checkNotNormalized(t, x.code+" "+y.code+" )")
				checkNormalized(t, "("+x.code+")==("+y.code+")", codeMeaning(oper(5, shared[:2]...)))
			}
		}
	}
	for _, e := range validExprs() {
		checkCodeMeaning(t, e)
	}
}
