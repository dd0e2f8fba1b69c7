package tests

import (
	"math"
	"math/rand"
	"reflect"
	"regexp"
	"slices"
	"strconv"
	"strings"
	"testing"

	"loop.example/g00510/impl"
)

// Promise 10: valid expressions respect the limits.

func num(n int) impl.Expr { return impl.Expr{Kind: 1, N: n} }

func lit(s string) impl.Expr { return impl.Expr{Kind: 2, Text: s} }

func ref(name string) impl.Expr { return impl.Expr{Kind: 3, Text: name} }

func list(args ...impl.Expr) impl.Expr { return impl.Expr{Kind: 4, Args: args} }

func call(name string, args ...impl.Expr) impl.Expr {
	return impl.Expr{Kind: 5, Text: name, Args: args}
}

func oper(op int, args ...impl.Expr) impl.Expr { return impl.Expr{Kind: 6, N: op, Args: args} }

func let(name string, args ...impl.Expr) impl.Expr { return impl.Expr{Kind: 7, Text: name, Args: args} }

func cond(args ...impl.Expr) impl.Expr { return impl.Expr{Kind: 8, Args: args} }

func loop(name string, args ...impl.Expr) impl.Expr {
	return impl.Expr{Kind: 9, Text: name, Args: args}
}

// ones returns the number 1 this many times.
func ones(count int) []impl.Expr { return slices.Repeat([]impl.Expr{num(1)}, count) }

func cloneExpr(e impl.Expr) impl.Expr {
	e.Args = normalEach(e.Args, cloneExpr)
	return e
}

// partsOf returns all nodes, each before those inside it, from left to right.
func partsOf(e impl.Expr) []impl.Expr {
	all := []impl.Expr{e}
	for _, arg := range e.Args {
		all = append(all, partsOf(arg)...)
	}
	return all
}

// edited returns a copy of e in which the node with this index in partsOf was edited.
func edited(e impl.Expr, index int, edit func(*impl.Expr)) impl.Expr {
	e = cloneExpr(e)
	var visit func(x *impl.Expr)
	visit = func(x *impl.Expr) {
		args := x.Args
		if index == 0 {
			edit(x)
		}
		index--
		for i := range args {
			visit(&args[i])
		}
	}
	visit(&e)
	return e
}

func everywhere(e impl.Expr, edit func(*impl.Expr)) []impl.Expr {
	var all []impl.Expr
	for i := range partsOf(e) {
		all = append(all, edited(e, i, edit))
	}
	return all
}

// The following functions say what the document says in another way.

func nestingMeaning(e impl.Expr) int {
	inside := 0
	for _, arg := range e.Args {
		inside = max(inside, nestingMeaning(arg))
	}
	return 1 + inside
}

// partForm matches the Kind, the N, the Text and the number of Args of a valid node. A name is to be checked besides.
var partForm = regexp.MustCompile(`\A(?:1 (?:\d{1,9}|1000000000)  0|2 0 [ !#-~]{0,20} 0|3 0 [a-z0-9]+ 0|4 0  [0-8]|6 [1-5]  2|8 0  3|[79] 0 [a-z0-9]+ 2|` +
	`5 0 (?:clock 0|(?:len|sum|rows|chance|file) 1|(?:take|skip|range|nth|keep|column|table) 2|(?:where|group|join) 3|add 4))\z`)

func isValidPart(e impl.Expr) bool {
	needsName := e.Kind == 3 || e.Kind == 7 || e.Kind == 9
	form := strings.Join([]string{strconv.Itoa(e.Kind), strconv.Itoa(e.N), e.Text, strconv.Itoa(len(e.Args))}, " ")
	return partForm.MatchString(form) && (!needsName || isName(e.Text))
}

func exprMeaning(e impl.Expr) bool {
	parts := partsOf(e)
	return len(parts) <= 40 && nestingMeaning(e) <= 8 && !slices.ContainsFunc(parts, func(x impl.Expr) bool { return !isValidPart(x) })
}

func effectMeaning(e impl.Expr) bool {
	return slices.ContainsFunc(partsOf(e), func(x impl.Expr) bool {
		return x.Kind == 5 && slices.Contains([]string{"clock", "chance", "file"}, x.Text)
	})
}

// spelled returns equal strings for expressions with equal fields, and only for these.
func spelled(e impl.Expr) string {
	s := strconv.Itoa(e.Kind) + " " + strconv.Itoa(e.N) + " " + strconv.Quote(e.Text) + "("
	for _, arg := range e.Args {
		s += spelled(arg) + ","
	}
	return s + ")"
}

// shortened is what an error says of an expression.
func shortened(e impl.Expr) string {
	s := spelled(e)
	return s[:min(len(s), 400)]
}

func checkMeasures(t *testing.T, e impl.Expr, nodes, nesting int) {
	t.Helper()
	if got := impl.NodeCount(e); got != nodes {
		t.Errorf("NodeCount(%s) = %d, want %d", shortened(e), got, nodes)
	}
	if got := impl.NestingOf(e); got != nesting {
		t.Errorf("NestingOf(%s) = %d, want %d", shortened(e), got, nesting)
	}
}

func checkValid(t *testing.T, want bool, all ...impl.Expr) {
	t.Helper()
	for _, e := range all {
		if got := impl.IsValidExpr(e); got != want {
			t.Errorf("IsValidExpr(%s) = %v", shortened(e), got)
		}
	}
}

func checkEffect(t *testing.T, want bool, all ...impl.Expr) {
	t.Helper()
	for _, e := range all {
		if got := impl.HasEffect(e); got != want {
			t.Errorf("HasEffect(%s) = %v", shortened(e), got)
		}
	}
}

func checkEqualExpr(t *testing.T, want bool, a, b impl.Expr) {
	t.Helper()
	if impl.EqualExpr(a, b) != want || impl.EqualExpr(b, a) != want {
		t.Errorf("EqualExpr(%s, %s) = %v, and %v in the other order", shortened(a), shortened(b), impl.EqualExpr(a, b), impl.EqualExpr(b, a))
	}
}

// checkExpr compares everything about e with what it means.
func checkExpr(t *testing.T, e impl.Expr) {
	t.Helper()
	checkMeasures(t, e, len(partsOf(e)), nestingMeaning(e))
	checkValid(t, exprMeaning(e), e)
	checkEffect(t, effectMeaning(e), e)
	checkEqualExpr(t, true, e, cloneExpr(e))
}

// functionCounts are the built-in functions with the numbers of their arguments.
func functionCounts() map[string]int {
	return map[string]int{
		"clock": 0, "len": 1, "sum": 1, "rows": 1, "chance": 1, "file": 1,
		"take": 2, "skip": 2, "range": 2, "nth": 2, "keep": 2, "column": 2, "table": 2,
		"where": 3, "group": 3, "join": 3, "add": 4,
	}
}

func everyFunction() []string {
	return strings.Fields("clock len sum rows chance file take skip range nth keep column table where group join add")
}

// validExprs are valid expressions of all kinds that differ from each other.
func validExprs() []impl.Expr {
	all := []impl.Expr{
		num(0), num(1), num(2), num(999999999), num(1000000000), lit(""), lit("a"), lit("a b"), lit("sum"), lit("clock"), lit("A-B{1}"), lit(strings.Repeat("x", 20)),
		ref("a"), ref("b"), ref("x1"), ref("abcdefgh"), ref("lets"), ref("clocks"), list(), list(num(1)), list(num(1), num(2)), list(num(2), num(1)), list(ones(8)...),
		list(list()), list(list(), list()), list(list(list())), list(num(1), list(num(1))), list(list(num(1)), num(1)), list(lit("a"), ref("a")), list(ref("a"), lit("a")),
		cond(num(1), num(2), num(3)), cond(ref("a"), lit("b"), list()), cond(num(1), cond(num(1), num(2), num(3)), num(3)), cond(num(1), num(2), cond(num(1), num(2), num(3))),
		let("a", num(1), ref("a")), let("b", num(1), ref("a")), let("a", ref("a"), num(1)), let("a", num(1), let("b", num(2), oper(1, ref("a"), ref("b")))), let("clocks", num(1), num(1)),
		loop("a", num(1), ref("a")), loop("b", num(1), ref("a")), loop("a", ref("a"), num(1)), loop("a", list(num(1), num(2)), loop("b", ref("a"), ref("b"))),
		call("sum", list(num(1))), call("sum", call("sum", call("sum", list()))), call("add", lit("c"), lit("a"), lit("b"), call("table", lit("a b"), list(list(num(1), num(2))))),
		oper(3, oper(1, num(1), num(2)), num(3)), oper(1, num(1), oper(3, num(2), num(3))), oper(2, oper(2, num(9), num(4)), num(3)), oper(2, num(9), oper(2, num(4), num(3))),
		call("len", call("clock")), list(call("chance", num(6)), call("chance", num(6))), let("f", call("file", lit("f")), ref("f")),
	}
	for op := 1; op <= 5; op++ {
		all = append(all, oper(op, ref("a"), num(1)), oper(op, num(1), ref("a")))
	}
	for _, name := range everyFunction() {
		count := functionCounts()[name]
		all = append(all, call(name, ones(count)...))
	}
	return all
}

func TestExprConstants(t *testing.T) {
	got := []int{
		impl.MaxNodes, impl.MaxNesting, impl.ExprNumber, impl.ExprText, impl.ExprName, impl.ExprList, impl.ExprCall,
		impl.ExprOperator, impl.ExprLet, impl.ExprIf, impl.ExprFor,
	}
	if !slices.Equal(got, []int{40, 8, 1, 2, 3, 4, 5, 6, 7, 8, 9}) {
		t.Errorf("the constants are %v", got)
	}
}

func checkArgumentCount(t *testing.T, name string) {
	t.Helper()
	want, isFunction := functionCounts()[name]
	if !isFunction {
		want = -1
	}
	if got := impl.ArgumentCount(name); got != want {
		t.Errorf("ArgumentCount(%q) = %d, want %d", name, got, want)
	}
}

func TestArgumentCount(t *testing.T) {
	for _, s := range slices.Concat(everyReservedWord(), oddStrings(), everySymbol(), stringsOver("lensumadfi", 4)) {
		checkArgumentCount(t, s)
	}
	for _, s := range []string{"x", "a", "abcdefgh", "min", "map", "filter", "count", "length", "times", "rand", "now", "read", "clocks", "sumsum", "len sum", "len(", "range()", "1", "tables"} {
		checkArgumentCount(t, s)
	}
	if len(functionCounts()) != len(everyReservedWord())-7 || len(everyFunction()) != len(functionCounts()) {
		t.Error("a function is missing here")
	}
}

func TestArgumentCountOfNamesNearby(t *testing.T) {
	for _, word := range everyReservedWord() {
		checkArgumentCount(t, strings.ToUpper(word))
		checkArgumentCount(t, strings.ToUpper(word[:1])+word[1:])
		for _, other := range everyReservedWord() {
			checkArgumentCount(t, word+other)
			checkArgumentCount(t, word+" "+other)
		}
		for i := range len(word) {
			checkArgumentCount(t, word[:i])
			checkArgumentCount(t, word[i+1:])
			checkArgumentCount(t, word[:i]+word[i+1:])
			for b := range 256 {
				one := string([]byte{byte(b)})
				checkArgumentCount(t, word[:i]+one+word[i+1:])
				checkArgumentCount(t, word[:i]+one+word[i:])
				checkArgumentCount(t, word+one)
			}
		}
	}
}

// A name is reserved if it is a keyword or has a number of arguments.
func TestArgumentCountAgreesWithReserved(t *testing.T) {
	keywords := strings.Fields("let in if then else for do")
	for _, s := range slices.Concat(everyReservedWord(), oddStrings(), stringsOver("addlen", 4)) {
		if got := impl.ArgumentCount(s) >= 0 || slices.Contains(keywords, s); got != impl.IsReserved(s) {
			t.Errorf("%q: ArgumentCount is %d, IsReserved is %v", s, impl.ArgumentCount(s), impl.IsReserved(s))
		}
	}
}

func TestMeasuresKnown(t *testing.T) {
	a := ref("a")
	checkMeasures(t, impl.Expr{}, 1, 1)
	for _, e := range []impl.Expr{num(0), lit(""), lit("abc"), a, list(), call("clock"), call("len"), oper(1), let("a"), cond(), loop("a"), {Kind: 10}, {Kind: -1, N: 70, Text: "abc"}} {
		checkMeasures(t, e, 1, 1)
		checkMeasures(t, list(e), 2, 2)
		checkMeasures(t, oper(1, e, e), 3, 2)
		checkMeasures(t, cond(e, oper(2, e, e), e), 6, 3)
		checkMeasures(t, cond(oper(2, e, list(e)), e, e), 7, 4)
		checkMeasures(t, cond(e, e, oper(2, list(e), e)), 7, 4)
	}
	checkMeasures(t, let("x", oper(1, a, num(1)), a), 5, 3)
	checkMeasures(t, oper(2, oper(3, oper(1, num(1), num(2)), num(3)), call("sum", list(a, num(4)))), 10, 4)
	checkMeasures(t, loop("x", list(num(1), num(2)), oper(3, ref("x"), ref("x"))), 7, 3)
	// An expression that is not valid is measured likewise, whatever its kind is.
	checkMeasures(t, impl.Expr{Kind: 1, N: 5, Args: []impl.Expr{a, list(a)}}, 4, 3)
	checkMeasures(t, impl.Expr{Kind: 3, Text: "a", Args: []impl.Expr{{}, {}}}, 3, 2)
	checkMeasures(t, impl.Expr{Args: []impl.Expr{{Args: []impl.Expr{{Args: []impl.Expr{{}}}}}}}, 4, 4)
}

func TestMeasuresWide(t *testing.T) {
	for size := range 300 {
		checkMeasures(t, list(ones(size)...), 1+size, min(2, 1+size))
		checkMeasures(t, list(slices.Repeat([]impl.Expr{list(num(1), num(2))}, size)...), 1+3*size, []int{1, 3}[min(1, size)])
		if size > 0 {
			// The deepest one at each place.
			args := ones(size)
			args[size*7%size] = list(list())
			args[size/2] = list(list(list()))
			checkMeasures(t, list(args...), len(partsOf(list(args...))), 4)
		}
	}
	for size := 1; size < 20; size++ {
		for i := range size {
			args := ones(size)
			args[i] = list(num(1))
			checkMeasures(t, list(args...), size+2, 3)
		}
	}
}

func TestMeasuresDeep(t *testing.T) {
	unary, left, right, full := num(1), num(1), num(1), num(1)
	for depth := 1; depth < 200; depth++ {
		checkMeasures(t, unary, depth, depth)
		checkMeasures(t, left, 2*depth-1, depth)
		checkMeasures(t, right, 2*depth-1, depth)
		unary, left, right = call("sum", unary), oper(1, left, num(1)), let("a", num(1), right)
	}
	for depth := 1; depth < 12; depth++ {
		checkMeasures(t, full, 1<<depth-1, depth)
		full = oper(1, full, full)
	}
}

// slots are expressions of each kind with one place for another expression, beside as many numbers as needed.
func slots() []func(impl.Expr) impl.Expr {
	one := num(1)
	all := []func(impl.Expr) impl.Expr{
		func(e impl.Expr) impl.Expr { return let("a", e, one) },
		func(e impl.Expr) impl.Expr { return let("a", one, e) },
		func(e impl.Expr) impl.Expr { return loop("a", e, one) },
		func(e impl.Expr) impl.Expr { return loop("a", one, e) },
		func(e impl.Expr) impl.Expr { return cond(e, one, one) },
		func(e impl.Expr) impl.Expr { return cond(one, e, one) },
		func(e impl.Expr) impl.Expr { return cond(one, one, e) },
		func(e impl.Expr) impl.Expr { return list(e) },
		func(e impl.Expr) impl.Expr { return list(e, one, one) },
		func(e impl.Expr) impl.Expr { return list(one, e, one) },
		func(e impl.Expr) impl.Expr { return list(one, one, e) },
	}
	for op := 1; op <= 5; op++ {
		all = append(all, func(e impl.Expr) impl.Expr { return oper(op, e, one) }, func(e impl.Expr) impl.Expr { return oper(op, one, e) })
	}
	for _, name := range everyFunction() {
		count := functionCounts()[name]
		for i := range count {
			all = append(all, func(e impl.Expr) impl.Expr {
				args := ones(count)
				args[i] = e
				return call(name, args...)
			})
		}
	}
	return all
}

// pureSlots are those of slots that have no effect.
func pureSlots() []func(impl.Expr) impl.Expr {
	return slices.DeleteFunc(slots(), func(slot func(impl.Expr) impl.Expr) bool { return effectMeaning(slot(num(1))) })
}

func TestValidExprs(t *testing.T) {
	for _, e := range validExprs() {
		checkValid(t, true, e)
		checkExpr(t, e)
		for _, slot := range slots() {
			checkValid(t, true, slot(e))
			checkExpr(t, slot(e))
		}
	}
}

func TestValidNumbers(t *testing.T) {
	for _, n := range []int{0, 1, 2, 7, 10, 255, 256, 65536, 999999, 1000000, 536870912, 999999999, 1000000000} {
		checkValid(t, true, num(n), list(num(n)), oper(1, num(0), num(n)))
	}
	for _, n := range []int{-1, -2, -1000000000, 1000000001, 1000000002, 1 << 31, 1 << 32, 1<<32 + 1, math.MaxInt, math.MinInt, math.MinInt + 1} {
		checkValid(t, false, num(n), list(num(n)), oper(1, num(0), num(n)), call("add", num(1), num(1), num(1), num(n)))
	}
}

func TestValidTexts(t *testing.T) {
	for _, s := range slices.Concat(oddStrings(), everyReservedWord(), stringsOver("a\" \x1f\x7f~", 3)) {
		checkExpr(t, lit(s))
		checkExpr(t, call("file", lit(s)))
	}
	for size := range 60 {
		s := strings.Repeat("x", size)
		checkValid(t, size <= 20, lit(s), list(lit(s)), call("len", lit(s)), oper(5, lit(s), num(1)))
	}
	for b := range 256 {
		one := string([]byte{byte(b)})
		valid := 32 <= b && b <= 126 && b != '"'
		checkValid(t, valid, lit(one), lit("ab"+one), lit(one+"ab"), lit(strings.Repeat(one, 20)), list(num(1), lit(one)))
		checkValid(t, false, lit(strings.Repeat(one, 21)))
	}
}

// Where a valid name is needed: as a name, and as the name that a let or a for binds.
func TestValidNames(t *testing.T) {
	named := func(s string) []impl.Expr {
		return []impl.Expr{
			ref(s), list(ref(s)), oper(1, num(1), ref(s)), let(s, num(1), num(2)), loop(s, num(1), num(2)), let("a", let(s, num(1), num(2)), num(2)), cond(num(1), num(2), loop(s, num(1), ref("a"))),
		}
	}
	for _, s := range slices.Concat(oddStrings(), everyReservedWord(), stringsOver("ado1A_", 3)) {
		checkValid(t, isName(s), named(s)...)
	}
	for _, s := range everyReservedWord() {
		checkValid(t, false, named(s)...)
		checkValid(t, len(s) < 8, named(s+"1")...)
	}
	for size := 1; size < 30; size++ {
		checkValid(t, size <= 8, named(strings.Repeat("a", size))...)
		checkValid(t, size <= 8, named("z"+strings.Repeat("9", size-1))...)
		checkValid(t, false, named("9"+strings.Repeat("z", size-1))...)
		checkValid(t, false, named(strings.Repeat("a", size-1)+"A")...)
	}
	for b := range 256 {
		one := string([]byte{byte(b)})
		for _, s := range []string{one, "a" + one, one + "a", "abcdefg" + one} {
			checkValid(t, isName(s), named(s)...)
		}
	}
}

func TestValidLists(t *testing.T) {
	for size := range 41 {
		e := list(ones(size)...)
		checkValid(t, size <= 8, e, list(e), cond(num(1), e, num(1)), call("sum", e))
		checkValid(t, size <= 8, list(append(ones(7), e)...))
	}
	checkValid(t, true, list([]impl.Expr{}...), list(make([]impl.Expr, 0, 9)...), impl.Expr{Kind: 4, Args: []impl.Expr{}}, call("clock", []impl.Expr{}...))
	// Not only values that a list may contain.
	checkValid(t, true, list(call("range", num(1), num(1)), call("table", lit("a"), list()), oper(1, lit("a"), num(1))))
}

func TestValidCalls(t *testing.T) {
	for _, name := range everyFunction() {
		count := functionCounts()[name]
		for size := range 12 {
			e := call(name, ones(size)...)
			checkValid(t, size == count, e, list(e), let("a", num(1), e), oper(1, e, num(1)))
			checkExpr(t, e)
		}
		checkValid(t, count == 0, call(name), call(name, []impl.Expr{}...))
		checkValid(t, false, call(name, append(ones(count), num(1))...))
		if count > 0 {
			checkValid(t, false, call(name, ones(count-1)...))
		}
	}
	names := []string{"let", "in", "if", "then", "else", "for", "do", "x", "a", "f", "abcdefgh", "SUM", "Sum", "sums", "su", "sum ", " sum", "sum1", "clock()", "map", "+", "=="}
	for _, name := range append(names, oddStrings()...) {
		for size := range 12 {
			e := call(name, ones(size)...)
			checkValid(t, false, e, list(e), cond(num(1), e, num(1)))
		}
	}
}

func TestValidOperators(t *testing.T) {
	for _, op := range everyNumberOfAnOperator() {
		for size := range 6 {
			e := oper(op, ones(size)...)
			checkValid(t, 1 <= op && op <= 5 && size == 2, e, list(e), call("sum", e), oper(1, num(1), e))
			checkExpr(t, e)
		}
	}
	for _, op := range []int{0, 6, 7, -1, -5, 1<<8 + 1, 1<<32 + 1, 1<<32 + 5, math.MaxInt, math.MinInt, math.MinInt + 1} {
		checkValid(t, false, oper(op, num(1), num(2)))
	}
}

func TestValidNumbersOfArgs(t *testing.T) {
	for size := range 12 {
		args := ones(size)
		checkValid(t, size == 2, let("a", args...), loop("a", args...), list(let("a", args...)), list(loop("a", args...)))
		checkValid(t, size == 3, cond(args...), list(cond(args...)))
		checkValid(t, size == 0, impl.Expr{Kind: 1, Args: args}, impl.Expr{Kind: 1, N: 1, Args: args}, impl.Expr{Kind: 2, Args: args}, impl.Expr{Kind: 3, Text: "a", Args: args})
		checkValid(t, size == 0, list(impl.Expr{Kind: 2, Text: "a", Args: args}), list(impl.Expr{Kind: 3, Text: "a", Args: args}))
	}
}

func TestValidKinds(t *testing.T) {
	kinds := []int{0, 10, 11, -1, -2, -3, -9, 256, 256 + 1, 256 + 4, 1 << 32, 1<<32 + 1, 1<<32 + 4, math.MaxInt, math.MinInt, math.MinInt + 1, math.MinInt + 4}
	for _, kind := range kinds {
		for _, e := range append(validExprs(), impl.Expr{}) {
			e.Kind = kind
			checkValid(t, false, e, list(e), cond(num(1), num(2), e))
		}
	}
	// An expression of one kind has, with another kind, what this one does not mention.
	for _, e := range validExprs() {
		for kind := -3; kind < 14; kind++ {
			e.Kind = kind
			checkExpr(t, e)
			checkExpr(t, list(e, num(1)))
		}
	}
	checkValid(t, false, impl.Expr{}, list(impl.Expr{}), list(num(1), impl.Expr{}))
	checkValid(t, true, impl.Expr{Kind: 1}, impl.Expr{Kind: 2}, impl.Expr{Kind: 4})
	checkValid(t, false, impl.Expr{Kind: 3}, impl.Expr{Kind: 5}, impl.Expr{Kind: 6}, impl.Expr{Kind: 7}, impl.Expr{Kind: 8}, impl.Expr{Kind: 9})
}

// deepPlaces puts an expression at the root, and deep inside another one, at several places.
func deepPlaces(e impl.Expr) []impl.Expr {
	all := []impl.Expr{e}
	for _, slot := range pureSlots() {
		all = append(all, slot(e), slot(slot(slot(e))), list(slot(num(1)), slot(e)))
	}
	return all
}

// exprStrays are the fields that a kind does not mention.
func exprStrays() map[int][]string {
	return map[int][]string{1: {"Text", "Args"}, 2: {"N", "Args"}, 3: {"N", "Args"}, 4: {"N", "Text"}, 5: {"N"}, 6: {"Text"}, 7: {"N"}, 8: {"N", "Text"}, 9: {"N"}}
}

func TestValidFieldsThatAreNotMentioned(t *testing.T) {
	for _, e := range validExprs() {
		if len(partsOf(e)) > 5 {
			continue
		}
		checkValid(t, true, deepPlaces(e)...)
		for _, field := range exprStrays()[e.Kind] {
			var spoiled []impl.Expr
			switch field {
			case "N":
				for _, n := range []int{1, -1, 5, 256, 1 << 32, math.MaxInt, math.MinInt} {
					spoiled = append(spoiled, impl.Expr{Kind: e.Kind, N: n, Text: e.Text, Args: e.Args})
				}
			case "Text":
				for _, s := range []string{"a", " ", "\x00", "sum", "clock", "0", "\xff"} {
					spoiled = append(spoiled, impl.Expr{Kind: e.Kind, N: e.N, Text: s, Args: e.Args})
				}
			case "Args":
				for _, args := range [][]impl.Expr{{{}}, {num(1)}, {num(0), num(0)}, {list()}} {
					spoiled = append(spoiled, impl.Expr{Kind: e.Kind, N: e.N, Text: e.Text, Args: args})
				}
			}
			for _, x := range spoiled {
				checkValid(t, false, deepPlaces(x)...)
			}
		}
	}
}

// filled returns a valid expression with this many nodes, as flat as lists can be.
func filled(nodes int) impl.Expr {
	if nodes == 1 {
		return num(1)
	}
	count := min(8, nodes-1)
	var args []impl.Expr
	for i := range count {
		args = append(args, filled((nodes-1)/count+map[bool]int{true: 1}[i < (nodes-1)%count]))
	}
	return list(args...)
}

// chainOf returns expressions inside each other, so that the nesting is this one.
func chainOf(slot func(impl.Expr) impl.Expr, nesting int) impl.Expr {
	e := num(1)
	for range nesting - 1 {
		e = slot(e)
	}
	return e
}

func TestValidNodes(t *testing.T) {
	for nodes := 1; nodes < 90; nodes++ {
		e := filled(nodes)
		if len(partsOf(e)) != nodes || nestingMeaning(e) > 4 {
			t.Fatalf("filled(%d) has another size", nodes)
		}
		checkValid(t, nodes <= 40, e)
		checkValid(t, nodes <= 39, list(e), call("len", e))
		checkValid(t, nodes <= 38, oper(1, e, num(1)), oper(1, num(1), e), let("a", num(1), e), loop("a", e, num(1)))
		checkValid(t, nodes <= 37, cond(e, num(1), num(1)), cond(num(1), e, num(1)), cond(num(1), num(1), e))
		checkValid(t, nodes <= 19, oper(5, e, e), let("a", e, e))
		checkValid(t, nodes <= 13, cond(e, e, e), call("join", e, e, e))
	}
	full := list(slices.Repeat([]impl.Expr{call("add", ones(4)...)}, 7)...)
	checkValid(t, true, full, list(append(slices.Clone(full.Args), list(num(1), num(2), num(3)))...))
	checkValid(t, false, list(append(slices.Clone(full.Args), list(ones(4)...))...), list(append(slices.Clone(full.Args), call("add", ones(4)...))...))
}

func TestValidNesting(t *testing.T) {
	for _, slot := range slots() {
		for nesting := 1; nesting < 14; nesting++ {
			e := chainOf(slot, nesting)
			checkMeasures(t, e, 1+(nesting-1)*(len(slot(num(1)).Args)), nesting)
			checkValid(t, nesting <= 8, e)
			checkValid(t, nesting <= 7, list(e), list(num(1), e, num(1)), call("sum", e))
		}
	}
	random, all := rand.New(rand.NewSource(10)), slots()
	for range 3000 {
		e := num(1)
		for range random.Intn(12) {
			e = all[random.Intn(len(all))](e)
		}
		checkExpr(t, e)
	}
}

// Both limits are reached at once, and each of them is exceeded alone.
func TestValidNodesAndNesting(t *testing.T) {
	for nesting := 6; nesting <= 10; nesting++ {
		for nodes := nesting; nodes < 60; nodes++ {
			// The lists inside each other get what is left over as numbers, seven at most each.
			left := nodes - nesting
			e := num(1)
			for range nesting - 1 {
				more := min(7, left)
				left -= more
				e = list(append(ones(more), e)...)
			}
			if left == 0 {
				checkMeasures(t, e, nodes, nesting)
				checkValid(t, nodes <= 40 && nesting <= 8, e)
			}
		}
	}
}

// invalidParts are nodes that are not valid, with fewer than three nodes inside.
func invalidParts() []impl.Expr {
	one := num(1)
	return []impl.Expr{
		{}, {Kind: 10}, {Kind: -1}, {Kind: 1, Text: "a"}, num(-1), num(1000000001), lit("\""), lit(strings.Repeat("x", 21)), {Kind: 2, N: 1}, ref(""), ref("sum"), ref("let"), ref("A"), ref("abcdefghi"),
		{Kind: 3, Text: "a", N: 1}, {Kind: 4, Text: "a"}, {Kind: 4, N: 1}, call("len"), call("x"), call(""), call("clock", one), call("let", one), call("sum", one, one), oper(1), oper(1, one), oper(0, one, one), oper(6, one, one),
		{Kind: 6, N: 1, Text: "+", Args: []impl.Expr{one, one}}, let("a"), let("a", one), let("in", one, one), let("", one, one), cond(), cond(one, one), loop("a"), loop("a", one), loop("do", one, one), loop("A", one, one),
	}
}

func TestValidWithOneInvalidNode(t *testing.T) {
	wholes := []impl.Expr{filled(37), filled(20), filled(9), list(chainOf(slots()[0], 6), chainOf(slots()[6], 6), num(1)), call("add", ones(4)...)}
	for _, bad := range invalidParts() {
		checkValid(t, false, bad)
		for _, e := range wholes {
			checkValid(t, true, e)
			// The first node is the root; the last one is the rightmost leaf.
			for _, spoiled := range everywhere(e, func(x *impl.Expr) { *x = bad }) {
				checkExpr(t, spoiled)
				checkValid(t, false, spoiled)
				if len(partsOf(spoiled)) > 40 || nestingMeaning(spoiled) > 8 {
					t.Fatal("the expression is too large to tell why it is not valid")
				}
			}
		}
	}
	// An invalid node in an expression that is at the limits, changed in no other way.
	for _, e := range []impl.Expr{filled(40), chainOf(slots()[7], 8)} {
		checkValid(t, true, e)
		checkValid(t, false, everywhere(e, func(x *impl.Expr) { x.Kind = 10 })...)
		checkValid(t, false, everywhere(e, func(x *impl.Expr) { x.Text = "a" })...)
		checkValid(t, false, everywhere(e, func(x *impl.Expr) { x.N -= 2 })...)
	}
}

// What is too large to be looked at as a whole, or endless, is not valid.
func TestValidEndsForLargeExprs(t *testing.T) {
	self := make([]impl.Expr, 2)
	self[0], self[1] = num(1), impl.Expr{Kind: 4, Args: self}
	twice := num(1)
	for range 60 {
		twice = oper(1, twice, twice)
	}
	for i, e := range []impl.Expr{
		self[1], list(self[1]), {Kind: 1, Args: self}, {Kind: 10, Args: self}, {Kind: 6, N: 1, Args: self}, twice, list(twice), chainOf(slots()[7], 300000), list(ones(300000)...), let("a", list(ones(300000)...), num(1)),
	} {
		if impl.IsValidExpr(e) {
			t.Errorf("large expression %d is valid", i)
		}
	}
	if impl.EqualExpr(self[1], list(num(1), list(num(1), list()))) || impl.EqualExpr(chainOf(slots()[7], 9), self[1]) {
		t.Error("an expression that contains itself equals another one")
	}
}

func TestMeasuresOfLargeExprs(t *testing.T) {
	const size = 300000
	deep, wide := chainOf(slots()[7], size), list(ones(size)...)
	other := edited(wide, size, func(x *impl.Expr) { x.N = 2 })
	if impl.NodeCount(deep) != size || impl.NestingOf(deep) != size || impl.HasEffect(deep) || !impl.EqualExpr(deep, deep) || impl.EqualExpr(deep, list(deep)) {
		t.Error("a deep expression is measured or compared wrongly")
	}
	if impl.NodeCount(wide) != size+1 || impl.NestingOf(wide) != 2 || impl.HasEffect(wide) || !impl.EqualExpr(wide, wide) || impl.EqualExpr(wide, other) {
		t.Error("a wide expression is measured or compared wrongly")
	}
	if !impl.HasEffect(list(deep, call("clock"), wide)) || impl.EqualExpr(deep, wide) {
		t.Error("large expressions together are compared wrongly")
	}
}

// exprEdits change one node of an expression so that it is another one. They leave some nodes as they are.
func exprEdits() []func(*impl.Expr) {
	return []func(*impl.Expr){
		func(x *impl.Expr) { x.Kind++ },
		func(x *impl.Expr) { x.Kind -= 1 << 32 },
		func(x *impl.Expr) { x.N++ },
		func(x *impl.Expr) { x.N = -x.N - 1 },
		func(x *impl.Expr) { x.N += 1 << 32 },
		func(x *impl.Expr) { x.Text += "a" },
		func(x *impl.Expr) { x.Text += "\x00" },
		func(x *impl.Expr) { x.Text = strings.ToUpper(x.Text) },
		func(x *impl.Expr) { x.Text = x.Text[:len(x.Text)/2] },
		func(x *impl.Expr) { x.Args = append(slices.Clone(x.Args), impl.Expr{}) },
		func(x *impl.Expr) { x.Args = append([]impl.Expr{num(1)}, x.Args...) },
		func(x *impl.Expr) { x.Args = x.Args[:len(x.Args)/2] },
		func(x *impl.Expr) { x.Args = nil },
		func(x *impl.Expr) { x.Args = x.Args[min(1, len(x.Args)):] },
		func(x *impl.Expr) { slices.Reverse(x.Args) },
		func(x *impl.Expr) { *x = list(*x) },
		func(x *impl.Expr) { *x = impl.Expr{} },
	}
}

func TestEqualExprSamples(t *testing.T) {
	all := slices.Concat(validExprs(), invalidParts())
	for i, a := range all {
		for j, b := range all {
			checkEqualExpr(t, i == j, a, b)
			checkEqualExpr(t, i == j, list(num(1), a), list(num(1), b))
			checkEqualExpr(t, i == j, cond(a, list(a), b), cond(a, list(b), b))
			checkEqualExpr(t, i == j, oper(1, a, b), oper(1, b, a))
		}
	}
}

func TestEqualExprAfterOneEdit(t *testing.T) {
	all := append(slices.Concat(validExprs(), invalidParts()), filled(40), filled(50), chainOf(slots()[0], 8), chainOf(slots()[6], 12))
	for _, a := range all {
		for _, edit := range exprEdits() {
			for _, b := range everywhere(a, edit) {
				checkEqualExpr(t, spelled(a) == spelled(b), a, b)
				checkExpr(t, b)
			}
		}
	}
}

func TestEqualExprNestedOtherwise(t *testing.T) {
	a, b, c := num(1), num(2), num(3)
	all := []impl.Expr{
		list(a, b, c), list(list(a), b, c), list(a, list(b), c), list(a, b, list(c)), list(list(a, b), c), list(a, list(b, c)), list(list(a, b, c)), list(list(), a, b, c), list(a, b, c, list()),
		list(list(a, b), list(c)), list(list(a), list(b, c)), list(list(a), list(b), list(c)), list(list(), list(a, b, c)), list(list(a, b, c), list()), list(c, b, a), list(b, a, c), list(a, c, b), list(a, b), list(a, b, c, c), list(a, a, b, c),
	}
	for i, x := range all {
		for j, y := range all {
			checkEqualExpr(t, i == j, x, y)
		}
	}
}

func TestEqualExprNilAndEmpty(t *testing.T) {
	for _, e := range slices.Concat(validExprs(), invalidParts()) {
		for i, part := range partsOf(e) {
			if len(part.Args) == 0 {
				empty := edited(e, i, func(x *impl.Expr) { x.Args = []impl.Expr{} })
				spare := edited(e, i, func(x *impl.Expr) { x.Args = append(ones(3), x.Args...)[:0] })
				checkEqualExpr(t, true, e, empty)
				checkEqualExpr(t, true, e, spare)
				checkEqualExpr(t, true, spare, empty)
				checkValid(t, exprMeaning(e), empty, spare)
				checkMeasures(t, spare, len(partsOf(e)), nestingMeaning(e))
				checkEffect(t, effectMeaning(e), empty, spare)
			}
		}
	}
}

func TestHasEffectKnown(t *testing.T) {
	clock, chance, file := call("clock"), call("chance", num(6)), call("file", lit("f"))
	for _, e := range []impl.Expr{clock, chance, file} {
		checkEffect(t, true, e)
		checkEffect(t, true, deepPlaces(e)...)
		checkEffect(t, true, everywhere(filled(40), func(x *impl.Expr) { *x = e })...)
		for _, slot := range pureSlots() {
			deep := chainOf(slot, 12)
			checkEffect(t, false, deep)
			checkEffect(t, true, everywhere(deep, func(x *impl.Expr) { *x = e })...)
		}
	}
	// Whatever else is wrong with the call or with what it is in.
	for _, name := range []string{"clock", "chance", "file"} {
		for size := range 5 {
			e := call(name, ones(size)...)
			e.N = size
			checkEffect(t, true, e, list(e), impl.Expr{Kind: 1, Args: []impl.Expr{e}}, impl.Expr{Args: []impl.Expr{{}, {}, e}}, call("x", e), call(name, impl.Expr{}))
		}
	}
}

func TestHasEffectOfOtherCalls(t *testing.T) {
	for _, name := range everyFunction() {
		count := functionCounts()[name]
		e := call(name, ones(count)...)
		checkEffect(t, name == "clock" || name == "chance" || name == "file", deepPlaces(e)...)
	}
	for _, s := range append(oddStrings(), "x", "clocks", "cloc", "Clock", "CLOCK", "clock ", " clock", "chance1", "chanc", "files", "fil", "FILE", "clock()", "clockchance", "file\x00") {
		checkEffect(t, false, deepPlaces(call(s))...)
		checkEffect(t, false, call(s, num(1)), call(s, lit("f")), call(s, call("len", lit("clock"))))
	}
}

func TestHasEffectOfOtherKinds(t *testing.T) {
	for _, s := range []string{"clock", "chance", "file", "clock()"} {
		for kind := -2; kind < 14; kind++ {
			if kind == 5 {
				continue
			}
			for size := range 4 {
				e := impl.Expr{Kind: kind, Text: s, Args: ones(size)}
				checkEffect(t, false, e, list(e), call("len", e), let("a", e, e))
				e.N = 5
				checkEffect(t, false, e, list(e))
			}
		}
		checkEffect(t, false, deepPlaces(ref(s))...)
		checkEffect(t, false, deepPlaces(lit(s))...)
		checkEffect(t, false, let(s, num(1), ref(s)), loop(s, list(), ref(s)), call("len", lit(s)), call("sum", ref(s)))
	}
}

// randomWhole returns a random valid expression with at most these nodes and this nesting, and one node at least.
func randomWhole(random *rand.Rand, nodes, nesting int) impl.Expr {
	text := func(list ...string) string { return list[random.Intn(len(list))] }
	name := text("a", "b", "x1", "abcdefgh", "clocks", "z")
	function := text(everyFunction()...)
	args := func(count int) []impl.Expr {
		var all []impl.Expr
		left := nodes - 1
		for i := range count {
			part := left - (count - 1 - i)
			if random.Intn(3) > 0 {
				part = 1 + random.Intn(part)
			}
			e := randomWhole(random, part, nesting-1)
			left -= len(partsOf(e))
			all = append(all, e)
		}
		return all
	}
	most := nodes - 1
	if nesting == 1 {
		most = 0
	}
	switch kind := 1 + random.Intn(9); {
	case kind <= 3 && most >= 4 && random.Intn(20) > 0:
		// Otherwise, nearly all of them would be small.
		return randomWhole(random, nodes, nesting)
	case kind == 2:
		return lit(text("", "a", "a b", "clock", strings.Repeat("~", 20)))
	case kind == 3:
		return ref(name)
	case kind == 4:
		return list(args(random.Intn(1 + min(8, most)))...)
	case kind == 5 && functionCounts()[function] <= most:
		return call(function, args(functionCounts()[function])...)
	case kind == 6 && most >= 2:
		return oper(1+random.Intn(5), args(2)...)
	case kind == 7 && most >= 2:
		return let(name, args(2)...)
	case kind == 8 && most >= 3:
		return cond(args(3)...)
	case kind == 9 && most >= 2:
		return loop(name, args(2)...)
	}
	return num(random.Intn(2) * random.Intn(1000000001))
}

// randomGrown returns one that often has as many nodes, or that nesting.
func randomGrown(random *rand.Rand, nodes, nesting int) impl.Expr {
	e := randomWhole(random, nodes, nesting)
	for range 2 * nodes {
		parts := partsOf(e)
		i := random.Intn(len(parts))
		if len(parts[i].Args) > 0 {
			continue
		}
		inside := randomWhole(random, nodes-len(parts)+1, nesting)
		if larger := edited(e, i, func(x *impl.Expr) { *x = inside }); nestingMeaning(larger) <= nesting {
			e = larger
		}
	}
	return e
}

// Adding an argument to a call makes a valid expression invalid, as does taking one away.
func TestAddedArgumentMakesInvalid(t *testing.T) {
	random := rand.New(rand.NewSource(1010))
	calls, atLimit, added := 0, 0, impl.Expr{}
	for i := range 1500 {
		e := randomWhole(random, 1+random.Intn(40), 1+random.Intn(8))
		if i%3 == 0 {
			e = randomGrown(random, 38+random.Intn(3), 5+random.Intn(4))
		}
		checkValid(t, true, e)
		for i, part := range partsOf(e) {
			if part.Kind != 5 {
				continue
			}
			calls++
			added = randomWhole(random, 1, 1)
			for _, at := range []int{0, len(part.Args) / 2, len(part.Args)} {
				checkValid(t, false, edited(e, i, func(x *impl.Expr) { x.Args = slices.Insert(x.Args, at, added) }))
			}
			if len(part.Args) > 0 {
				checkValid(t, false, edited(e, i, func(x *impl.Expr) { x.Args = x.Args[1:] }))
			}
		}
		if len(partsOf(e)) == 40 || nestingMeaning(e) == 8 {
			atLimit++
		}
	}
	if calls < 1500 || atLimit < 150 {
		t.Errorf("%d calls, and %d expressions at a limit: too few to mean anything", calls, atLimit)
	}
}

// A valid expression respects the limits: it is one exactly if it means one.
func TestValidExprsRespectTheLimits(t *testing.T) {
	random := rand.New(rand.NewSource(101010))
	edits := exprEdits()
	counts := map[bool]int{}
	for range 1500 {
		e := randomGrown(random, 37+random.Intn(6), 5+random.Intn(5))
		for range random.Intn(3) {
			e = edited(e, random.Intn(len(partsOf(e))), edits[random.Intn(len(edits))])
		}
		checkExpr(t, e)
		isValid := impl.IsValidExpr(e)
		counts[isValid]++
		if isValid && (impl.NodeCount(e) > impl.MaxNodes || impl.NestingOf(e) > impl.MaxNesting) {
			t.Errorf("the valid expression %s exceeds a limit", shortened(e))
		}
		// What is inside a valid expression is valid.
		for _, part := range e.Args {
			if isValid {
				checkValid(t, true, part)
			}
		}
	}
	if counts[true] < 300 || counts[false] < 300 {
		t.Errorf("%d valid and %d invalid expressions: too few to mean anything", counts[true], counts[false])
	}
}

// Promise 48: every function is total and does not modify its arguments.

// spaciousExpr returns a copy of e the Args of which have unused capacity with contents.
func spaciousExpr(e impl.Expr) impl.Expr {
	e.Args = append(normalEach(e.Args, spaciousExpr), num(77), call("clock"), list(num(78)))[:len(e.Args)]
	return e
}

// wholeExpr returns a copy of e the Args of which are extended by their unused capacity.
func wholeExpr(e impl.Expr) impl.Expr {
	e.Args = normalEach(e.Args[:cap(e.Args)], wholeExpr)
	return e
}

func TestExprFunctionsKeepTheirArguments(t *testing.T) {
	all := append(slices.Concat(validExprs(), invalidParts()), filled(40), filled(41), chainOf(slots()[0], 8), chainOf(slots()[6], 9))
	for i, e := range all {
		a, b := spaciousExpr(e), spaciousExpr(all[(i*7+3)%len(all)])
		wantA, wantB := wholeExpr(a), wholeExpr(b)
		checkExpr(t, a)
		checkExpr(t, b)
		checkEqualExpr(t, spelled(a) == spelled(b), a, b)
		checkEqualExpr(t, true, a, a)
		if !reflect.DeepEqual(wholeExpr(a), wantA) || !reflect.DeepEqual(wholeExpr(b), wantB) {
			t.Errorf("an argument of %s or of %s was changed", shortened(a), shortened(b))
		}
	}
}

// Equal calls have equal results, whatever was called before, and also for Args that share memory.
func TestExprFunctionsKeepNoState(t *testing.T) {
	for _, e := range slices.Concat(validExprs(), invalidParts()) {
		shared := oper(1, e, e)
		shared.Args = append(shared.Args, shared.Args...)[:2]
		for range 2 {
			checkExpr(t, e)
			checkExpr(t, shared)
			checkExpr(t, list(shared, e, shared))
		}
	}
}
