package tests

import (
	"math/rand"
	"reflect"
	"slices"
	"strconv"
	"strings"
	"testing"

	"loop.example/g00510/impl"
)

// Promise 11: the offset of an error is within the string or at its end.

// syntaxRules are the rules of the syntax without optional and repeated parts: each of them is another rule here. They
// permit one reading of a string of tokens at most.
func syntaxRules() [][]string {
	var rules [][]string
	for _, line := range strings.Split(`Expr let NAME = Expr in Expr
		Expr if Expr then Expr else Expr
		Expr for NAME in Expr do Expr
		Expr Compare
		Compare Sum
		Compare Sum < Sum
		Compare Sum == Sum
		Sum Product
		Sum Sum + Product
		Sum Sum - Product
		Product Atom
		Product Product * Atom
		Atom NUMBER
		Atom TEXT
		Atom NAME
		Atom FUNCTION ( )
		Atom FUNCTION ( List )
		Atom [ ]
		Atom [ List ]
		Atom ( Expr )
		List Expr
		List List , Expr`, "\n") {
		rules = append(rules, strings.Fields(line))
	}
	return rules
}

var rulesOfSyntax = syntaxRules()

// reading is a rule that was begun at this word, and what the parts before the dot are.
type reading struct {
	rule  int
	start int
	parts []impl.Expr
}

func (r reading) head() string { return rulesOfSyntax[r.rule][0] }

// next returns the part that the rule needs now, "" if it is complete.
func (r reading) next() string {
	rule := rulesOfSyntax[r.rule]
	if len(r.parts)+1 == len(rule) {
		return ""
	}
	return rule[len(r.parts)+1]
}

func (r reading) with(part impl.Expr) reading {
	r.parts = append(slices.Clone(r.parts), part)
	return r
}

func fitsPart(part, word string) bool {
	switch part {
	case "NUMBER":
		return '0' <= word[0] && word[0] <= '9'
	case "TEXT":
		return word[0] == '"'
	case "NAME":
		return isName(word)
	case "FUNCTION":
		_, isFunction := functionCounts()[word]
		return isFunction
	}
	return part == word
}

// result returns what a complete rule means.
func (r reading) result() impl.Expr {
	rule, parts := rulesOfSyntax[r.rule], r.parts
	inside := func() []impl.Expr { return parts[len(parts)-2].Args }
	switch strings.Join(rule[1:min(3, len(rule))], " ") {
	case "let NAME":
		return let(parts[1].Text, parts[3], parts[5])
	case "if Expr":
		return cond(parts[1], parts[3], parts[5])
	case "for NAME":
		return loop(parts[1].Text, parts[3], parts[5])
	case "( Expr":
		return parts[1]
	case "FUNCTION (":
		return call(parts[0].Text, inside()...)
	case "[ List", "[ ]":
		return list(inside()...)
	case "List ,":
		return list(append(slices.Clone(parts[0].Args), parts[2])...)
	case "Expr":
		return list(parts[0])
	}
	if len(parts) == 3 {
		return oper(1+slices.Index(strings.Fields("+ - * < =="), rule[2]), parts[0], parts[2])
	}
	return parts[0]
}

func wordMeaning(word string) impl.Expr {
	switch token := tokenOf(word, 0); token.Kind {
	case 2:
		return num(token.N)
	case 3:
		return lit(token.Text)
	}
	return ref(word)
}

// readings is what may be going on before a word, each only once.
type readings struct {
	all  []reading
	seen map[[3]int]bool
}

func (s *readings) add(r reading) {
	key := [3]int{r.rule, r.start, len(r.parts)}
	if !s.seen[key] {
		s.seen[key] = true
		s.all = append(s.all, r)
	}
}

// syntaxMeaning follows all rules at once. It returns the meaning of the words, and -1; or the number of the first word
// that no rule permits at its place, or how many words there are if they end too early.
func syntaxMeaning(words []string) (impl.Expr, int) {
	sets := []*readings{}
	for range len(words) + 1 {
		sets = append(sets, &readings{seen: map[[3]int]bool{}})
	}
	begin := func(head string, at int) {
		for i, rule := range rulesOfSyntax {
			if rule[0] == head {
				sets[at].add(reading{rule: i, start: at})
			}
		}
	}
	begin("Expr", 0)
	for at := range sets {
		if len(sets[at].all) == 0 {
			return impl.Expr{}, at - 1
		}
		// The list grows within the loop.
		for i := 0; i < len(sets[at].all); i++ {
			r := sets[at].all[i]
			part := r.next()
			if part == "" {
				for _, outer := range sets[r.start].all {
					if outer.next() == r.head() {
						sets[at].add(outer.with(r.result()))
					}
				}
			} else if begin(part, at); at < len(words) && fitsPart(part, words[at]) {
				sets[at+1].add(r.with(wordMeaning(words[at])))
			}
		}
	}
	for _, r := range sets[len(words)].all {
		if r.head() == "Expr" && r.start == 0 && r.next() == "" {
			return r.result(), -1
		}
	}
	return impl.Expr{}, len(words)
}

func wordsOf(tokens []impl.Token, s string) []string {
	var words []string
	for i, token := range tokens {
		end := len(s)
		if i+1 < len(tokens) {
			end = tokens[i+1].At
		}
		words = append(words, strings.TrimRight(s[token.At:end], " "))
	}
	return words
}

// parseMeaning is what ParseExpr should return.
func parseMeaning(s string) (impl.Expr, int) {
	tokens, bad := tokensMeaning(s)
	if bad >= 0 {
		return impl.Expr{}, bad
	}
	e, at := syntaxMeaning(wordsOf(tokens, s))
	switch {
	case at == len(tokens):
		return impl.Expr{}, len(s)
	case at >= 0:
		return impl.Expr{}, tokens[at].At
	case !exprMeaning(e):
		return impl.Expr{}, 0
	}
	return e, -1
}

func checkResult(t *testing.T, s string, want impl.Expr, wantBad int) {
	t.Helper()
	got, bad := impl.ParseExpr(s)
	if bad != wantBad || spelled(got) != spelled(want) {
		t.Errorf("ParseExpr(%q) = %s, %d, want %s, %d", s, shortened(got), bad, shortened(want), wantBad)
	}
	if impl.ParseError(s) != (wantBad >= 0) {
		t.Errorf("ParseError(%q) = %v", s, wantBad < 0)
	}
}

func checkParsed(t *testing.T, s string, want impl.Expr) {
	t.Helper()
	checkResult(t, s, want, -1)
}

func checkNotParsed(t *testing.T, s string, at int) {
	t.Helper()
	checkResult(t, s, impl.Expr{}, at)
}

// checkFirstError checks sources with an exclamation mark before the first error.
func checkFirstError(t *testing.T, all ...string) {
	t.Helper()
	for _, marked := range all {
		before, after, isMarked := strings.Cut(marked, "!")
		if !isMarked {
			t.Errorf("%q has no mark", marked)
		}
		checkNotParsed(t, before+after, len(before))
	}
}

// checkSyntax compares a source with what it means. It returns whether it has no error.
func checkSyntax(t *testing.T, s string) bool {
	t.Helper()
	want, bad := parseMeaning(s)
	checkResult(t, s, want, bad)
	return bad == -1
}

func TestParseExprKnown(t *testing.T) {
	a, b, c := ref("a"), ref("b"), ref("c")
	checkParsed(t, "1 + 2 * a", oper(1, num(1), oper(3, num(2), a)))
	checkParsed(t, "(1 + 2) * 3 - sum([a, 4])", oper(2, oper(3, oper(1, num(1), num(2)), num(3)), call("sum", list(a, num(4)))))
	checkParsed(t, "let x = 12 in x*x", let("x", num(12), oper(3, ref("x"), ref("x"))))
	checkParsed(t, "if a<b then 1 else 0", cond(oper(4, a, b), num(1), num(0)))
	checkParsed(t, "for x in take(3, s) do x == \"x\"", loop("x", call("take", num(3), ref("s")), oper(5, ref("x"), lit("x"))))
	checkParsed(t, "let a = 1 in let b = 2 in if a then b else for c in [] do a", let("a", num(1), let("b", num(2), cond(a, b, loop("c", list(), a)))))
	checkParsed(t, "let a = let b = 1 in b in if if a then b else c then for a in b do a else let a = 1 in a",
		let("a", let("b", num(1), b), cond(cond(a, b, c), loop("a", b, a), let("a", num(1), a))))
	checkParsed(t, "for a in for b in c do b do if a then b else c", loop("a", loop("b", c, b), cond(a, b, c)))
	checkParsed(t, "if a < b then a == b else a + b < c * a", cond(oper(4, a, b), oper(5, a, b), oper(4, oper(1, a, b), oper(3, c, a))))
	checkParsed(t, "let a = b < c in a == c", let("a", oper(4, b, c), oper(5, a, c)))
	checkParsed(t, "for a in b == c do a < c", loop("a", oper(5, b, c), oper(4, a, c)))
	checkParsed(t, `join("k", where("b", 1, t), group("k", "b", t))`, call("join", lit("k"), call("where", lit("b"), num(1), ref("t")), call("group", lit("k"), lit("b"), ref("t"))))
	checkParsed(t, `table("a b", [[1, 2], [3, 4]])`, call("table", lit("a b"), list(list(num(1), num(2)), list(num(3), num(4)))))
	checkParsed(t, `chance(6) + clock() - len(file("f"))`, oper(2, oper(1, call("chance", num(6)), call("clock")), call("len", call("file", lit("f")))))
}

func TestParseExprAtoms(t *testing.T) {
	for _, n := range []int{0, 1, 7, 10, 123456789, 999999999, 1000000000} {
		checkParsed(t, strconv.Itoa(n), num(n))
	}
	for _, s := range []string{"", " ", "a", "a b", " a ", "sum", "let x = 1 in x", "(", "1", "-1", "\\", "~!@#$%^&*", strings.Repeat("x", 20)} {
		checkParsed(t, `"`+s+`"`, lit(s))
	}
	for _, s := range []string{"a", "z", "x1", "a0", "abcdefgh", "z2345678", "lets", "le", "inn", "i", "iff", "f", "format", "fo", "done", "d", "elsee", "thens", "sums", "clocks", "su", "not", "true", "and", "while"} {
		checkParsed(t, s, ref(s))
	}
	for _, name := range everyFunction() {
		count := functionCounts()[name]
		args := slices.Repeat([]string{"1"}, count)
		checkParsed(t, name+"("+strings.Join(args, ",")+")", call(name, ones(count)...))
		checkParsed(t, "  "+name+" ( "+strings.Join(args, "  ,  ")+" )  ", call(name, ones(count)...))
	}
	for size := range 9 {
		args := slices.Repeat([]string{"1"}, size)
		checkParsed(t, "["+strings.Join(args, ",")+"]", list(ones(size)...))
		checkParsed(t, " [ "+strings.Join(args, " , ")+" ] ", list(ones(size)...))
	}
	checkParsed(t, "[[], [[]], [1, [2]], \"a\", a, clock()]", list(list(), list(list()), list(num(1), list(num(2))), lit("a"), ref("a"), call("clock")))
}

// Sources, and how they are read with all parentheses.
func TestParseExprOperators(t *testing.T) {
	for s, want := range map[string]string{
		"a + b": "(a + b)", "a - b": "(a - b)", "a * b": "(a * b)", "a < b": "(a < b)", "a == b": "(a == b)",
		"a + b + c": "((a + b) + c)", "a - b - c": "((a - b) - c)", "a * b * c": "((a * b) * c)", "a - b + c": "((a - b) + c)", "a + b - c": "((a + b) - c)",
		"a + b * c": "(a + (b * c))", "a * b + c": "((a * b) + c)", "a - b * c": "(a - (b * c))", "a * b - c": "((a * b) - c)",
		"a < b + c": "(a < (b + c))", "a + b < c": "((a + b) < c)", "a == b * c": "(a == (b * c))", "a * b == c": "((a * b) == c)", "a == b - c": "(a == (b - c))", "a - b == c": "((a - b) == c)",
		"a + b * c + d": "((a + (b * c)) + d)", "a * b + c * d": "((a * b) + (c * d))", "a - b - c - d": "(((a - b) - c) - d)", "a * b * c * d": "(((a * b) * c) * d)", "a - b + c - d": "(((a - b) + c) - d)",
		"a + b == c + d": "((a + b) == (c + d))", "a * b < c * d": "((a * b) < (c * d))", "a * b * c < d": "(((a * b) * c) < d)", "a < b - c - d": "(a < ((b - c) - d))", "a - b * c == d": "((a - (b * c)) == d)",
		"a - (b - c)": "(a - (b - c))", "a * (b * c)": "(a * (b * c))", "a + (b + c)": "(a + (b + c))", "(a + b) * c": "((a + b) * c)", "a * (b + c)": "(a * (b + c))", "a - (b + c) - d": "((a - (b + c)) - d)",
		"(a < b) < c": "((a < b) < c)", "a < (b < c)": "(a < (b < c))", "(a == b) == c": "((a == b) == c)", "a == (b < c)": "(a == (b < c))", "(a < b) + c": "((a < b) + c)", "a * (b == c)": "(a * (b == c))",
	} {
		e, bad := impl.ParseExpr(want)
		if bad != -1 || inParentheses(e) != want {
			t.Errorf("%q is read as %s, %d", want, inParentheses(e), bad)
		}
		checkParsed(t, s, e)
		checkParsed(t, strings.ReplaceAll(s, " ", ""), e)
		checkParsed(t, strings.ReplaceAll(s, " ", "   "), e)
		checkSyntax(t, s)
	}
}

// inParentheses writes names and operators, each with its operands in parentheses.
func inParentheses(e impl.Expr) string {
	if e.Kind == 6 && len(e.Args) == 2 {
		return "(" + inParentheses(e.Args[0]) + " " + impl.OpSymbol(e.N) + " " + inParentheses(e.Args[1]) + ")"
	}
	return e.Text
}

// Up to four operators in any order, also behind parentheses.
func TestParseExprOperatorsInAnyOrder(t *testing.T) {
	var extend func(s string, operators int)
	extend = func(s string, operators int) {
		checkSyntax(t, s)
		if operators == 0 {
			return
		}
		for _, symbol := range strings.Fields("+ - * < ==") {
			extend(s+symbol+"b", operators-1)
			if operators%2 == 0 {
				extend("("+s+")"+symbol+"(c)", operators-1)
			}
		}
	}
	extend("a", 4)
	for _, symbol := range strings.Fields("+ - *") {
		want := ref("a")
		for size := range 13 {
			// The last one has eight levels already at seven operators.
			if size <= 7 {
				checkParsed(t, strings.Repeat("a"+symbol, size)+"a", want)
			} else {
				checkNotParsed(t, strings.Repeat("a"+symbol, size)+"a", 0)
			}
			want = oper(slices.Index([]string{"", "+", "-", "*"}, symbol), want, ref("a"))
		}
	}
}

func TestParseExprSecondComparison(t *testing.T) {
	checkFirstError(t,
		"1 < 2 !< 3", "1 == 2 !== 3", "1 < 2 !== 3", "1 == 2 !< 3", "a + b < c * d !< e", "a<b!<c<d", "a==b!==c", "(a < b !< c)", "[a < b !< c]", "sum(a < b !== c)", "let x = a < b !< c in x", "let x = a in a < b !< c",
		"if a == b !== c then 1 else 0", "if a then a < b !< c else 0", "if a then b else a < b !< c", "for x in a < b !< c do x", "for x in a do x == b !== c", "a < (b < c) !< d", "(a < b) < c !< (d)", "a < b + c !== d", "a < b !=", "a < b !< ", "a == b!==",
	)
}

// Each kind of expression inside parentheses, lists and arguments, and as an operand.
func TestParseExprWholeExpressionsInside(t *testing.T) {
	whole := map[string]impl.Expr{
		"let x = 1 in x":              let("x", num(1), ref("x")),
		"if a then b else c":          cond(ref("a"), ref("b"), ref("c")),
		"for x in a do x":             loop("x", ref("a"), ref("x")),
		"a < b":                       oper(4, ref("a"), ref("b")),
		"a == b":                      oper(5, ref("a"), ref("b")),
		"let x = a < b in x == x":     let("x", oper(4, ref("a"), ref("b")), oper(5, ref("x"), ref("x"))),
		"if a then b else c + 1":      cond(ref("a"), ref("b"), oper(1, ref("c"), num(1))),
		"for x in a do x * (x)":       loop("x", ref("a"), oper(3, ref("x"), ref("x"))),
		"if a then b else [c, a]":     cond(ref("a"), ref("b"), list(ref("c"), ref("a"))),
		"let x = 1 in let y = x in y": let("x", num(1), let("y", ref("x"), ref("y"))),
	}
	one := num(1)
	for s, e := range whole {
		checkParsed(t, s, e)
		for form, want := range map[string]impl.Expr{
			"(%)": e, "((%))": e, "[%]": list(e), "[1, %]": list(one, e), "[%, 1]": list(e, one), "[%, %]": list(e, e), "sum(%)": call("sum", e), "take(1, %)": call("take", one, e), "take(%, 1)": call("take", e, one),
			"where(1, %, 1)": call("where", one, e, one), "(%) + 1": oper(1, e, one), "1 + (%)": oper(1, one, e), "(%) * 1": oper(3, e, one), "1 - (%)": oper(2, one, e), "(%) < (%)": oper(4, e, e), "1 == (%)": oper(5, one, e),
			"let y = % in 1": let("y", e, one), "let y = 1 in %": let("y", one, e), "if % then 1 else 1": cond(e, one, one), "if 1 then % else 1": cond(one, e, one), "if 1 then 1 else %": cond(one, one, e),
			"for y in % do 1": loop("y", e, one), "for y in 1 do %": loop("y", one, e), "let y = (%) in (%)": let("y", e, e),
		} {
			checkParsed(t, strings.ReplaceAll(form, "%", s), want)
		}
	}
	for _, s := range []string{"let x = 1 in x", "if a then b else c", "for x in a do x"} {
		for _, form := range []string{"1 + !%", "1 - !%", "1 * !%", "1 < !%", "1 == !%", "1 + 1 * !%", "1 < 1 + !%", "1 !%", "(1 + !%)", "[1 * !%]", "sum(1 < !%)", "let y = 1 + !% in 1", "if 1 then 1 == !% else 1", "a !%", "\"\" !%", "[] !%", "clock() !%"} {
			checkFirstError(t, strings.ReplaceAll(form, "%", s))
		}
	}
}

func TestParseExprParentheses(t *testing.T) {
	a, b := ref("a"), ref("b")
	for s, e := range map[string]impl.Expr{
		"1": num(1), `"a"`: lit("a"), "a": a, "[]": list(), "[a]": list(a), "clock()": call("clock"), "sum(a)": call("sum", a), "a + b": oper(1, a, b), "a * b": oper(3, a, b), "a < b": oper(4, a, b), "let a = 1 in a": let("a", num(1), a), "if a then b else a": cond(a, b, a),
	} {
		// Each pair of parentheses takes two tokens.
		for size := range 25 {
			open, close := strings.Repeat("(", size), strings.Repeat(")", size)
			checkParsed(t, open+s+close, e)
			checkParsed(t, strings.ReplaceAll(open, "(", "( ")+s+strings.ReplaceAll(close, ")", " )"), e)
			checkParsed(t, "["+open+s+close+"]", list(e))
			if size > 0 {
				checkParsed(t, open+s+close+" * b", oper(3, e, b))
				checkParsed(t, "b - "+open+s+close, oper(2, b, e))
				checkFirstError(t, open+s+close[1:]+"!", open+s+close[1:]+"  !", open+s+close+"!)", open+"!"+close, open+s+close[1:]+"!]")
			}
		}
	}
	checkParsed(t, "((a) + (b)) * ((a))", oper(3, oper(1, a, b), a))
	checkParsed(t, "(((a) * (b)) - (((a)))) == (b)", oper(5, oper(2, oper(3, a, b), a), b))
	checkParsed(t, "let a = (b) in (if (a) then (b) else (a))", let("a", b, cond(a, b, a)))
	checkParsed(t, "sum(((a)))", call("sum", a))
	checkFirstError(t, "(!)", "(!", "((!", "!)", "(a!", "(a!]", "[a!)", "(a!, b)", "(a !b)", "(!,)", "((a)!,", "a !(b)", "(a)!(b)", "1!(2)", "[]!()", "clock()!()", "(clock!)()", "(sum!)(a)", "a!()", "((!)")
}

// A name where the syntax has one, and where it has none.
func TestParseExprNames(t *testing.T) {
	for _, word := range everyReservedWord() {
		_, isFunction := functionCounts()[word]
		for _, form := range []string{"let !% = 1 in 2", "for !% in 1 do 2", "let a = 1 in let !% = 1 in a", "(let !%", "[for !%", "let !%"} {
			checkFirstError(t, strings.ReplaceAll(form, "%", word))
		}
		forms := []string{"1 + !%", "(1 * !%", "[!%", "[1, !%", "sum(!%", "a < !%", "1 - !% = 2"}
		if word == "let" || word == "if" || word == "for" {
			forms = []string{"1 + !%", "a * !%", "a < !%", "a !%", "(a !%", "let !%"}
		}
		if isFunction {
			forms = []string{"%!", "1 + %!", "% !", "(%!)", "[%!]", "% !+ 1", "1 < % !", "%!, a", "%!]", "sum(%!)", "% !a", "% !1", "%![]", "% !== a", "let a = % !in 1", "if % !then 1 else 2", "% !%", "%!*", "%!\"\""}
		}
		for _, form := range forms {
			checkFirstError(t, strings.ReplaceAll(form, "%", word))
		}
		if !isFunction {
			checkSyntax(t, word)
			checkFirstError(t, "a !"+word, "(a)!"+word)
		}
	}
	for _, name := range []string{"a", "x", "f", "sums", "clocks", "abcdefgh", "lets", "x1", "map", "print"} {
		checkFirstError(t, name+"!()", name+"!(1)", name+" !(1, 2)", "1 + "+name+"!(1)", "["+name+"!(a)]", "sum("+name+"!(a))", "let y = "+name+"!(1) in 1", name+" !a", name+" !1", name+"![]", name+"!\"\"")
		checkParsed(t, "let "+name+" = 1 in "+name, let(name, num(1), ref(name)))
		checkParsed(t, "for "+name+" in "+name+" do "+name, loop(name, ref(name), ref(name)))
	}
	for _, form := range []string{"!%", "1 + !%", "let !% = 1 in 1", "for !% in 1 do 1", "(!%)", "[a, !%]", "!%(1)", "1 1 1 !%", "let let !%", ") !%", "sum !%"} {
		for _, word := range []string{"abcdefghi", "a12345678", "lettuces1", "sumsumsum"} {
			checkFirstError(t, strings.ReplaceAll(form, "%", word))
		}
	}
}

// syntaxSources have every part of every rule.
func syntaxSources() []string {
	return []string{
		"let x = 1 in x", "if a then b else c", "for x in a do x", "a < b", "a == b", "a + b - c", "a * b * c", "1", `"a b"`, "a", "sum(a)", "clock()", "take(1, a)", "add(a, b, c, d)", "[]", "[a]", "[a, b, c]", "(a)", "((a) + b)",
		"let x = let y = 1 in 2 in 3", "if if a then b else c then d else e", "if a then if b then c else d else e", "for x in for y in a do b do c", "[let x = 1 in x, 2]", "sum(if a then b else c)", "(for x in a do x) + 1",
		"(1 + 2) * 3 - sum([a, 4])", "let f = [a < b, c == d] in f", `where("b", 1 - 2, t)`, "nth(2, [1, [], clock()])", "if a < b then [a] else (b) * c",
	}
}

// Some of the first tokens are an expression or end too early: then the error is behind the spaces that follow.
func TestParseExprEndsTooEarly(t *testing.T) {
	for _, s := range syntaxSources() {
		tokens, _ := tokensMeaning(s)
		for _, token := range tokens {
			part := strings.TrimRight(s[:token.At], " ")
			whole, bad := parseMeaning(part)
			for _, spaces := range []string{"", " ", "   ", strings.Repeat(" ", 120-len(part))} {
				if bad == -1 {
					checkParsed(t, part+spaces, whole)
				} else {
					checkNotParsed(t, part+spaces, len(part+spaces))
				}
			}
			checkNotParsed(t, part+strings.Repeat(" ", 121-len(part)), 120)
		}
	}
	checkFirstError(t,
		"!", " !", "   !", "let!", "let !", "let x!", "let x !", "let x =!", "let x = 1!", "let x = 1 !", "let x = 1 in!", "let x = 1 in  !", "if!", "if a!", "if a then!", "if a then b!", "if a then b else!", "for!", "for x!", "for x in!", "for x in a!", "for x in a do!",
		"a <!", "a ==!", "a == !", "a +!", "a + !", "a -!", "a *!", "a * !", "sum!", "sum !", "sum(!", "sum( !", "sum(a!", "sum(a,!", "sum(a, !", "clock!", "clock(!", "[!", "[ !", "[a!", "[a,!", "[a, b!", "[a, b,  !", "(!", "(a!", "(a !", "((a)!", "1 + (2 * !", "[[]!", "[(!",
	)
}

// Each token of the sources is removed, replaced by each word, and preceded by it.
func TestParseExprOneTokenElse(t *testing.T) {
	words := slices.Concat(everySymbol(), everyReservedWord()[:8], []string{"clock", "a", "x", "0", "12", `""`, `"a"`})
	accepted, refused := 0, 0
	check := func(s string) {
		t.Helper()
		if checkSyntax(t, s) {
			accepted++
		} else {
			refused++
		}
	}
	for _, s := range syntaxSources() {
		check(s)
		tokens, _ := tokensMeaning(s)
		for i, word := range wordsOf(tokens, s) {
			before, after := s[:tokens[i].At], s[tokens[i].At+len(word):]
			check(before + after)
			for _, other := range words {
				check(before + " " + other + " " + after)
				check(before + " " + other + " " + word + after)
			}
		}
		for _, other := range words {
			check(s + " " + other)
		}
	}
	if accepted < 500 || refused < 5000 {
		t.Errorf("%d accepted, %d refused: too few to mean anything", accepted, refused)
	}
}

func TestParseExprEmpty(t *testing.T) {
	for size := range 130 {
		checkNotParsed(t, strings.Repeat(" ", size), min(size, 120))
	}
	checkFirstError(t, "!$", "  !$", "!\x00", "!\n", "!\xff", "\x20!\t", "!\"", " !\"  ", "!=", "!)", " !]", "!,", "!+", "!-", "!*", "!<", "!==", "!in", "!then", "!else", "!do", "!- 1", "!+ 1", "!-1", "1 + !-1", "!* a", "!== a")
}

func TestParseExprMaxCode(t *testing.T) {
	for _, s := range []string{"1", "a", `"a b"`, "1 + 2", "let x = 1 in x", "sum([a, 4])", "(a)"} {
		want, _ := parseMeaning(s)
		for _, size := range []int{118, 119, 120} {
			checkParsed(t, s+strings.Repeat(" ", size-len(s)), want)
			checkParsed(t, strings.Repeat(" ", size-len(s))+s, want)
			checkNotParsed(t, s+strings.Repeat(" ", size-len(s)-1)+"+", size)
			checkNotParsed(t, strings.Repeat(" ", size-len(s)-1)+s+")", size-1)
		}
		for _, size := range []int{121, 122, 240, 10000, 3000000} {
			checkNotParsed(t, s+strings.Repeat(" ", size-len(s)), 120)
			checkNotParsed(t, strings.Repeat(" ", size-len(s))+s, 120)
		}
	}
	// Up to 120 bytes without a space.
	text := strings.Repeat("x", 20)
	texts, want := strings.Repeat(`"`+text+`"+`, 5), lit(text)
	for range 4 {
		want = oper(1, want, lit(text))
	}
	checkParsed(t, texts+"1000", oper(1, want, num(1000)))
	checkParsed(t, texts+"10000", oper(1, want, num(10000)))
	checkNotParsed(t, texts+"100000", 120)
	checkNotParsed(t, texts+"1000+", 120)
	checkNotParsed(t, texts+"1000)", 119)
	for _, s := range []string{strings.Repeat("$", 121), strings.Repeat("(", 121), strings.Repeat("a", 121), strings.Repeat("1 2 ", 40), ")" + strings.Repeat(" ", 120)} {
		checkNotParsed(t, s, 120)
	}
}

func TestParseExprMaxTokens(t *testing.T) {
	for _, s := range []string{"1", "a", "[]", "1 + 2", "let x = 1 in x", "clock()", "sum([a, 4])", "1 * 2", "a == b", "if a then b else c"} {
		e, _ := parseMeaning(s)
		tokens, _ := tokensMeaning(s)
		size := (60 - len(tokens)) / 2
		inside := strings.Repeat("(", size) + s + strings.Repeat(")", size)
		checkParsed(t, inside, e)
		if len(tokens)%2 == 0 {
			checkNotParsed(t, "("+inside+")", len(inside))
			checkNotParsed(t, inside+"$", len(inside))
			checkNotParsed(t, inside+")", len(inside))
			checkNotParsed(t, inside[1:]+"  ) 1", len(inside)+3)
		} else {
			checkFirstError(t, "("+inside+"!", inside+"!)", inside+" !1")
			checkNotParsed(t, "("+inside+")", len(inside)+1)
			checkNotParsed(t, "1 1 "+inside, len(inside)+3)
		}
	}
	// Sixty tokens are read to the end, one more is an error whatever the others are.
	sixty := strings.Repeat("+a", 29)
	checkNotParsed(t, "a"+sixty, 0)
	checkNotParsed(t, "a"+sixty+"+", 60)
	checkNotParsed(t, "a"+sixty+"+a", 60)
	checkNotParsed(t, "a"+sixty+")", 59)
	checkNotParsed(t, ")"+sixty+")", 0)
	checkNotParsed(t, "+"+sixty+"  + a", 63)
	checkNotParsed(t, strings.Repeat("(", 60), 60)
	checkNotParsed(t, strings.Repeat("[", 60)+"  ", 62)
	checkNotParsed(t, strings.Repeat("(", 61), 60)
	checkNotParsed(t, strings.Repeat("[", 59)+")", 59)
	checkNotParsed(t, strings.Repeat("if ", 40), 120)
	checkNotParsed(t, strings.Repeat("sum(", 30), 120)
	checkNotParsed(t, strings.Repeat("let a=", 20), 120)
	checkNotParsed(t, strings.Repeat("for a in ", 13), 117)
}

// A whole expression that is not valid has its error at 0, wherever the reason is.
func TestParseExprNotValid(t *testing.T) {
	for _, name := range everyFunction() {
		for size := range 9 {
			s := name + "(" + strings.TrimSuffix(strings.Repeat("1,", size), ",") + ")"
			forms := []string{"%", " %", "   %  ", "(%)", "[1, %]", "1 + %", "% * 2", "let x = 1 in %", "if 1 then % else 1", "sum(%)", "%==%", "for x in % do x"}
			for _, form := range forms {
				source := strings.ReplaceAll(form, "%", s)
				if want, bad := parseMeaning(source); size == functionCounts()[name] {
					checkParsed(t, source, want)
				} else if bad != 0 {
					t.Errorf("%q means an error at %d", source, bad)
				} else {
					checkNotParsed(t, source, 0)
				}
				// The first syntax error is behind the call.
				checkNotParsed(t, source+" )", len(source)+1)
				checkNotParsed(t, source+" +", len(source)+2)
				checkNotParsed(t, source+"+", len(source)+1)
				checkNotParsed(t, source+" $", len(source)+1)
			}
		}
	}
	for size := range 29 {
		s := "[" + strings.TrimSuffix(strings.Repeat("1,", size), ",") + "]"
		if size <= 8 {
			checkParsed(t, s, list(ones(size)...))
			checkParsed(t, "sum("+s+")", call("sum", list(ones(size)...)))
		} else {
			checkNotParsed(t, s, 0)
			checkNotParsed(t, "  "+s, 0)
			checkNotParsed(t, "sum("+s+")", 0)
			checkNotParsed(t, "[["+s[1:], len(s)+1)
			checkNotParsed(t, s+"]", len(s))
			checkNotParsed(t, s[:len(s)-1]+",]", len(s))
		}
	}
	// Two reasons, and each beside a syntax error.
	checkFirstError(t, "[1,1,1,1,1,1,1,1,1] < 1 !< 1", "!sum() + len()", "!sum(1, 2) + [1,1,1,1,1,1,1,1,1]", "sum() + len(!", "sum(1, 2) !1", "sum(!,)", "clock(1!", "clock(1,!)", "[sum(), !]", "sum()!()", "take(1) + 2 !(3)", "let x = sum() in !in", "if sum() then 1 !", "for a in clock(1) !in", "clock() + sum !")
}

// elementOf is an expression with this many nodes that is nested as little as possible.
func elementOf(nodes int) string {
	if nodes%2 == 0 {
		return "[" + elementOf(nodes-1) + "]"
	}
	return "1" + strings.Repeat("*1", nodes/2)
}

// listOfNodes is a list that has as many nodes together with its elements.
func listOfNodes(nodes int) string {
	var elements []string
	for left := nodes - 1; left > 0; left -= 7 {
		elements = append(elements, elementOf(min(7, left)))
	}
	return "[" + strings.Join(elements, ",") + "]"
}

// As many nodes as permitted, and one more.
func TestParseExprMaxNodes(t *testing.T) {
	for nodes := 1; nodes <= 50; nodes++ {
		s := listOfNodes(nodes)
		tokens, _ := tokensMeaning(s)
		e, at := syntaxMeaning(wordsOf(tokens, s))
		if at >= 0 || len(partsOf(e)) != nodes || nestingMeaning(e) > 8 {
			t.Fatalf("%q is not an expression of %d nodes", s, nodes)
		}
		for _, form := range []string{"%", "(%)", "  %  "} {
			if source := strings.Replace(form, "%", s, 1); nodes <= 40 {
				checkParsed(t, source, e)
			} else {
				checkNotParsed(t, source, 0)
			}
		}
		checkFirstError(t, s+"!)", s+" !1", s+"+!", s+"*!*", s[:len(s)-1]+"!", s[:len(s)-1]+"!)")
	}
	for size := 1; size < 30; size++ {
		// The operators nest to the left; with parentheses in the middle, half as deep.
		part := strings.Repeat("a+", size/2) + "a"
		checkSyntax(t, part+"*("+part+")")
		checkSyntax(t, "["+part+","+part+"]")
		checkSyntax(t, part+"<"+part)
	}
}

// nestingForms have one place for another expression, one level deeper.
func nestingForms() []string {
	return []string{
		"[%]", "[1,%]", "[%,1]", "sum(%)", "take(1,%)", "where(1,%,1)", "(%)+1", "1-(%)", "(%)*1", "1*(%)", "(%)<1", "1==(%)", "let a=% in 1", "let a=1 in %", "if %then 1else 1", "if 1then %else 1", "if 1then 1else %", "for a in %do 1", "for a in 1do %", "sum(((%)))",
	}
}

// As deep a nesting as permitted, and one level more.
func TestParseExprMaxNesting(t *testing.T) {
	full := 0
	for _, form := range nestingForms() {
		for levels := range 14 {
			for formed := range levels + 1 {
				s := "1"
				for i := range levels {
					if i < formed {
						s = strings.Replace(form, "%", s, 1)
					} else {
						s = "[" + s + "]"
					}
				}
				tokens, bad := tokensMeaning(s)
				if bad >= 0 {
					continue
				}
				if formed == 7 && levels == 7 {
					full++
				}
				e, at := syntaxMeaning(wordsOf(tokens, s))
				if at >= 0 || nestingMeaning(e) != levels+1 || len(partsOf(e)) > 40 {
					t.Fatalf("%q is not an expression nested in %d levels", s, levels+1)
				}
				if levels <= 7 {
					checkParsed(t, s, e)
				} else {
					checkNotParsed(t, s, 0)
				}
				if len(tokens) < 60 && len(s) < 119 {
					checkFirstError(t, s+" !)", s+" !1")
				}
			}
		}
	}
	if full < len(nestingForms()) {
		t.Errorf("only %d forms nest as deeply as permitted", full)
	}
}

// spacedWords puts words together with random spaces between them, at least where two would be another one.
func spacedWords(random *rand.Rand, words []string, most int) string {
	var s string
	for i, word := range words {
		spaces := strings.Repeat(" ", random.Intn(most+1))
		if i > 0 && spaces == "" && wordForm.FindString(words[i-1]+word) != words[i-1] {
			spaces = " "
		}
		s += spaces + word
	}
	return s + strings.Repeat(" ", random.Intn(most+1))
}

// levelMeaning is the number of the rule that produces e, from expr to atom.
func levelMeaning(e impl.Expr) int {
	switch e.Kind {
	case 6:
		return []int{1: 2, 2: 2, 3: 3, 4: 1, 5: 1}[e.N]
	case 7, 8, 9:
		return 0
	}
	return 4
}

// writtenWords returns the words of source code for a valid expression where the syntax has this level, with random
// parentheses around what does not need them.
func writtenWords(random *rand.Rand, e impl.Expr, level int) []string {
	own := levelMeaning(e)
	part := func(i int, level int) []string { return writtenWords(random, e.Args[i], level) }
	inside := func() []string {
		var all []string
		for i := range e.Args {
			all = slices.Concat(all, []string{","}[:min(1, i)], part(i, 0))
		}
		return all
	}
	word := func(s string) []string { return []string{s} }
	var words []string
	switch e.Kind {
	case 1:
		words = word(strconv.Itoa(e.N))
	case 2:
		words = word(`"` + e.Text + `"`)
	case 3:
		words = word(e.Text)
	case 4:
		words = slices.Concat(word("["), inside(), word("]"))
	case 5:
		words = slices.Concat(word(e.Text), word("("), inside(), word(")"))
	case 6:
		words = slices.Concat(part(0, max(2, own)), word(strings.Fields("+ - * < ==")[e.N-1]), part(1, own+1))
	case 7:
		words = slices.Concat(word("let"), word(e.Text), word("="), part(0, 0), word("in"), part(1, 0))
	case 8:
		words = slices.Concat(word("if"), part(0, 0), word("then"), part(1, 0), word("else"), part(2, 0))
	case 9:
		words = slices.Concat(word("for"), word(e.Text), word("in"), part(0, 0), word("do"), part(1, 0))
	}
	for own < level || random.Intn(8) == 0 {
		words, own = slices.Concat(word("("), words, word(")")), 4
	}
	return words
}

// The source code of a valid expression is read as this expression, whatever its spaces and parentheses are.
func TestParseExprWrittenExpressions(t *testing.T) {
	random := rand.New(rand.NewSource(11))
	check := func(e impl.Expr) bool {
		words := writtenWords(random, e, 0)
		s := spacedWords(random, words, random.Intn(4))
		if len(s) > 120 {
			s = spacedWords(random, words, 0)
		}
		if len(s) > 120 {
			checkNotParsed(t, s, 120)
			return false
		}
		if len(words) > 60 {
			checkSyntax(t, s)
			return false
		}
		checkParsed(t, s, e)
		return true
	}
	for _, e := range validExprs() {
		for range 10 {
			check(e)
			check(list(num(1), e))
			check(oper(2, e, oper(3, num(1), e)))
			check(call("take", cond(e, e, e), num(1)))
		}
	}
	parsed := 0
	for range 20000 {
		if check(randomWhole(random, 1+random.Intn(25), 1+random.Intn(8))) {
			parsed++
		}
	}
	if parsed < 10000 {
		t.Errorf("only %d expressions were short enough", parsed)
	}
}

// randomWords returns the words of a random string that the syntax permits for this part. The rules in which it does
// not occur again are preferred if it is to be short.
func randomWords(random *rand.Rand, part string, size int) []string {
	words := map[string][]string{
		"NUMBER": {"0", "1", "12", "1000000000"}, "TEXT": {`""`, `"a"`, `"a b"`, `"let"`}, "NAME": {"a", "b", "x1", "abcdefgh", "lets"}, "FUNCTION": {"clock", "sum", "take", "where", "add", "len", "range"},
	}
	if choice := words[part]; choice != nil {
		return []string{choice[random.Intn(len(choice))]}
	}
	var rules [][]string
	for _, rule := range rulesOfSyntax {
		if rule[0] == part && (size > 0 || len(rule) == 2) {
			rules = append(rules, rule)
		}
	}
	if len(rules) == 0 {
		return []string{part}
	}
	rule := rules[random.Intn(len(rules))]
	var all []string
	for _, inside := range rule[1:] {
		// The parts of a rule share what is left, but a rule with one part takes nothing.
		left := size
		if len(rule) > 2 {
			left = random.Intn(size)
		}
		all = append(all, randomWords(random, inside, left)...)
	}
	return all
}

// Random code that the syntax permits, and random changes of one byte or one token of it.
func TestParseExprRandomCode(t *testing.T) {
	random := rand.New(rand.NewSource(111))
	tokens := slices.Concat(everySymbol(), everyReservedWord()[:8], []string{"clock", "a", "b", "0", "12", `""`, "abcdefghi", "00", "$"})
	bytes := "abz019 ()[],+-*<=\"\x00\n$A\xff"
	parsed, notParsed, changed := 0, 0, map[bool]int{}
	for range 6000 {
		words := randomWords(random, "Expr", random.Intn(40))
		s := spacedWords(random, words, random.Intn(3))
		if checkSyntax(t, s) {
			parsed++
		} else {
			notParsed++
		}
		i := random.Intn(len(words))
		other := tokens[random.Intn(len(tokens))]
		for _, edit := range [][]string{slices.Delete(slices.Clone(words), i, i+1), slices.Insert(slices.Clone(words), i, other), slices.Replace(slices.Clone(words), i, i+1, other)} {
			changed[checkSyntax(t, spacedWords(random, edit, random.Intn(2)))]++
		}
		at := random.Intn(len(s))
		c := string(bytes[random.Intn(len(bytes))])
		for _, edit := range []string{s[:at] + s[at+1:], s[:at] + c + s[at:], s[:at] + c + s[at+1:]} {
			changed[checkSyntax(t, edit)]++
		}
	}
	if parsed < 1500 || notParsed < 500 || changed[true] < 1500 || changed[false] < 3000 {
		t.Errorf("%d parsed, %d not, %v after a change: too few to mean anything", parsed, notParsed, changed)
	}
}

// A beginning that the syntax permits is permitted whatever follows: no error is before its end.
func TestParseExprBeginningIsNotAffected(t *testing.T) {
	random := rand.New(rand.NewSource(1111))
	tails := []string{"", ")", "]", ",", "1", "a", "sum", "let", "in", "then", "= =", "+ +", "1 1 1", "( ) ( )", "< 1 < 1 < 1", `"" ""`}
	beginnings := 0
	for range 1500 {
		words := randomWords(random, "Expr", random.Intn(20))
		if len(words) > 50 {
			continue
		}
		// A random part of the words, and then one that may be wrong.
		part := words[:random.Intn(len(words)+1)]
		before := strings.Join(part, " ") + " "
		_, firstBad := syntaxMeaning(part)
		if firstBad >= 0 && firstBad < len(part) {
			t.Fatalf("the beginning %q has an error", before)
		}
		for _, tail := range tails {
			s := before + tail
			if len(s) > 120 {
				continue
			}
			beginnings++
			if _, bad := impl.ParseExpr(s); bad > 0 && bad < len(before) || bad == 0 && len(part) > 0 && firstMeaning(s) >= 0 {
				t.Errorf("ParseExpr(%q) reports an error at %d in the beginning %q", s, bad, before)
			}
			checkSyntax(t, s)
		}
	}
	if beginnings < 5000 {
		t.Errorf("only %d beginnings", beginnings)
	}
}

// firstMeaning returns the number of the first token that is not permitted, -1 if the syntax permits the whole string.
func firstMeaning(s string) int {
	tokens, _ := tokensMeaning(s)
	_, at := syntaxMeaning(wordsOf(tokens, s))
	return at
}

// What follows the first error does not matter, if it consists of tokens.
func TestParseExprFirstErrorCounts(t *testing.T) {
	random := rand.New(rand.NewSource(11111))
	words := slices.Concat(everySymbol(), everyReservedWord(), []string{"a", "x", "0", "12", `""`, `"a"`})
	errors := 0
	for range 4000 {
		begin := randomWords(random, "Expr", random.Intn(12))
		begin = append(begin[:random.Intn(len(begin)+1)], words[random.Intn(len(words))])
		s := strings.Join(begin, " ")
		at := firstMeaning(s)
		if at < 0 || at == len(begin) || len(s) > 60 {
			continue
		}
		errors++
		offset := len(strings.Join(begin[:at], " "))
		if at > 0 {
			offset++
		}
		checkNotParsed(t, s, offset)
		for range 3 {
			for range random.Intn(8) {
				s += " " + words[random.Intn(len(words))]
			}
			if len(s) <= 120 {
				checkNotParsed(t, s, offset)
			}
		}
	}
	if errors < 1500 {
		t.Errorf("only %d errors", errors)
	}
}

// Promise 11 itself, for strings of all kinds.
func TestParseExprOffsetIsWithinTheString(t *testing.T) {
	random := rand.New(rand.NewSource(111111))
	check := func(s string) {
		e, bad := impl.ParseExpr(s)
		if bad < -1 || bad > len(s) || impl.ParseError(s) != (bad != -1) {
			t.Errorf("ParseExpr(%q) reports an error at %d, ParseError is %v", s, bad, impl.ParseError(s))
		}
		if bad >= 0 && !reflect.DeepEqual(e, impl.Expr{}) {
			t.Errorf("ParseExpr(%q) has the result %s beside an error", s, shortened(e))
		}
		if bad == -1 && !exprMeaning(e) {
			t.Errorf("ParseExpr(%q) = %s is not valid", s, shortened(e))
		}
	}
	for _, s := range slices.Concat(oddStrings(), tokenSources(), syntaxSources(), everyReservedWord(), everySymbol()) {
		check(s)
		for i := range min(len(s), 200) {
			check(s[:i])
			check(s[i:])
		}
	}
	for range 60000 {
		s := make([]byte, random.Intn(30))
		for i := range s {
			s[i] = byte(random.Intn(256))
			if random.Intn(4) > 0 {
				s[i] = "a1 ()[],+-*<="[random.Intn(13)]
			}
		}
		check(string(s))
	}
	for _, unit := range []string{"(", "[", "1+", "sum(", "let a = ", "if ", "a ", "$", "\"", " ", "\xff", "for a in a do "} {
		for size := range 200 {
			check(strings.Repeat(unit, size))
		}
		check(strings.Repeat(unit, 2000000))
	}
}

func TestParseExprAllShortStrings(t *testing.T) {
	accepted := 0
	for _, s := range slices.Concat(stringsOver("a1+<(", 5), stringsOver("a[],", 6), stringsOver("1*-= ", 5), stringsOver("a=\"", 5)) {
		if checkSyntax(t, s) {
			accepted++
		}
	}
	var extend func(s string, left int)
	extend = func(s string, left int) {
		if checkSyntax(t, s) {
			accepted++
		}
		for _, word := range strings.Fields("let if for in = a then else do sum ( )") {
			if left > 0 {
				extend(s+word+" ", left-1)
			}
		}
	}
	extend("", 4)
	if accepted < 300 {
		t.Errorf("only %d strings have no error", accepted)
	}
}

// Promise 48: every function is total and does not modify its arguments.

// fillSpare overwrites the unused capacity of all Args.
func fillSpare(e impl.Expr) {
	spare := e.Args[len(e.Args):cap(e.Args)]
	for i := range spare {
		spare[i] = call("spoilt")
	}
	for _, arg := range e.Args {
		fillSpare(arg)
	}
}

// Results share no memory with each other, and no two parts of one result do.
func TestParseExprResultsAreIndependent(t *testing.T) {
	more := []string{"[a, b] + [a, b]", "[[1], [1], [1]]", "sum(sum(sum([])))", "1+1+1+1*1*1<1", "add(a, [b], (c), [])", "[1, 2, 3, 4, 5]", "if [a] then [a] else [a]", "[] == []"}
	for _, s := range slices.Concat(syntaxSources(), more) {
		want, bad := parseMeaning(s)
		first, _ := impl.ParseExpr(s)
		second, _ := impl.ParseExpr(s)
		fillSpare(first)
		if bad != -1 || spelled(first) != spelled(want) {
			t.Errorf("the parts of %q share memory", s)
		}
		seen := map[*impl.Expr]bool{}
		for _, e := range []impl.Expr{first, second} {
			for _, part := range partsOf(e) {
				for i := range part.Args[:cap(part.Args)] {
					place := &part.Args[:cap(part.Args)][i]
					if seen[place] {
						t.Errorf("results of %q share memory", s)
					}
					seen[place] = true
				}
			}
		}
		for _, part := range partsOf(first) {
			clear(part.Args)
		}
		if spelled(second) != spelled(want) {
			t.Errorf("one result of %q changed with another one", s)
		}
		checkParsed(t, s, want)
	}
}

// Equal calls have equal results, whatever was called before.
func TestParseExprKeepsNoState(t *testing.T) {
	all := slices.Concat(syntaxSources(), []string{"", "(", "1 +", "1 1", "$", "sum(1, 2)", "let let", strings.Repeat(" ", 121)})
	for _, a := range all {
		for _, b := range all {
			impl.ParseExpr(a)
			impl.ParseError(b)
			got, bad := impl.ParseExpr(a)
			again, badAgain := impl.ParseExpr(strings.Clone(a))
			if bad != badAgain || spelled(got) != spelled(again) {
				t.Errorf("ParseExpr(%q) is not the same behind %q", a, b)
			}
		}
		checkSyntax(t, a)
	}
}
