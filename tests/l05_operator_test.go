package tests

import (
	"bytes"
	"math"
	"math/big"
	"math/rand"
	"reflect"
	"slices"
	"strings"
	"testing"

	"loop.example/g00510/impl"
)

// Promise 5: operators return valid values, and the first error among the operands is the result.

func everyOperator() []int {
	return []int{impl.OpAdd, impl.OpSubtract, impl.OpMultiply, impl.OpLess, impl.OpSame}
}

// noOperators are numbers that no operator has.
func noOperators() []int {
	return []int{0, 6, -1, -2, -3, -4, -5, -6, 7, 8, 256 + 1, 1 << 32, 1<<32 + 1, 1<<32 + 5, math.MaxInt, math.MaxInt - 1, math.MinInt, math.MinInt + 1}
}

func everyNumberOfAnOperator() []int { return append(everyOperator(), noOperators()...) }

func checkOperator(t *testing.T, op int, a, b, want impl.Value) {
	t.Helper()
	got := impl.ApplyOperator(op, a, b)
	if !reflect.DeepEqual(normal(got), normal(want)) {
		t.Errorf("ApplyOperator(%d, %+v, %+v) = %+v, want %+v", op, a, b, got, want)
	}
	if !impl.IsValidValue(got) {
		t.Errorf("ApplyOperator(%d, %+v, %+v) = %+v, which is not valid", op, a, b, got)
	}
}

// checkBothWays checks an operator that has this result for the operands in either order.
func checkBothWays(t *testing.T, op int, a, b, want impl.Value) {
	t.Helper()
	checkOperator(t, op, a, b, want)
	checkOperator(t, op, b, a, want)
}

// truth and failure do not use the functions that are tested.
func truth(on bool) impl.Value {
	if on {
		return impl.Value{Kind: 1, N: 1}
	}
	return impl.Value{Kind: 1}
}

func failure(code int) impl.Value { return impl.Value{Kind: 6, N: code} }

func TestOperatorConstants(t *testing.T) {
	if got := everyOperator(); !slices.Equal(got, []int{1, 2, 3, 4, 5}) {
		t.Errorf("the operators are %d", got)
	}
}

func TestOpSymbol(t *testing.T) {
	for i, want := range []string{"+", "-", "*", "<", "=="} {
		if got := impl.OpSymbol(i + 1); got != want {
			t.Errorf("OpSymbol(%d) = %q, want %q", i+1, got, want)
		}
	}
	for _, op := range noOperators() {
		if got := impl.OpSymbol(op); got != "?" {
			t.Errorf("OpSymbol(%d) = %q, want \"?\"", op, got)
		}
	}
	for op := -1000; op <= 1000; op++ {
		if got := impl.OpSymbol(op); (got == "?") != (op < 1 || op > 5) {
			t.Errorf("OpSymbol(%d) = %q", op, got)
		}
	}
}

func TestTruthValue(t *testing.T) {
	for _, on := range []bool{true, false} {
		v := impl.TruthValue(on)
		if !reflect.DeepEqual(normal(v), truth(on)) || !impl.IsValidValue(v) {
			t.Errorf("TruthValue(%v) = %+v", on, v)
		}
		if impl.IsTrue(v) != on {
			t.Errorf("IsTrue(TruthValue(%v)) = %v", on, !on)
		}
	}
}

func TestIsTrue(t *testing.T) {
	for _, n := range []int{0, 1, -1, 2, -2, 7, 256, 1 << 32, impl.MaxNumber, -impl.MaxNumber, impl.MaxNumber + 1, math.MaxInt, math.MinInt} {
		if got := impl.IsTrue(impl.NumberValue(n)); got != (n != 0) {
			t.Errorf("IsTrue of the number %d = %v", n, got)
		}
	}
	for _, v := range append(validValues(), invalidValues()...) {
		if got := impl.IsTrue(v); got != (v.Kind == 1 && v.N != 0) {
			t.Errorf("IsTrue(%+v) = %v", v, got)
		}
	}
	for _, kind := range []int{-1, 0, 2, 3, 4, 5, 6, 7, 256 + 1, 1<<32 + 1, math.MaxInt, math.MinInt} {
		if impl.IsTrue(impl.Value{Kind: kind, N: 1}) {
			t.Errorf("IsTrue of kind %d with N 1 = true", kind)
		}
	}
	for _, v := range []impl.Value{numbers(1), impl.TextValue("1"), impl.StreamValue(1, 1), impl.ErrorValue(1), tableFrom(impl.Origin{Cell: 1})} {
		if impl.IsTrue(v) {
			t.Errorf("IsTrue(%+v) = true", v)
		}
	}
}

func TestCheckedNumber(t *testing.T) {
	const limit = 1000000000
	for n, valid := range map[int]bool{
		0: true, 1: true, -1: true, 5: true, limit - 1: true, limit: true, 1 - limit: true, -limit: true,
		limit + 1: false, -limit - 1: false, 2 * limit: false, -2 * limit: false, limit * limit: false, -limit * limit: false,
		math.MaxInt32: false, math.MinInt32: false, 1 << 32: false, 1<<32 + 1: false, -1 << 32: false,
		math.MaxInt: false, math.MaxInt - 1: false, math.MinInt: false, math.MinInt + 1: false,
	} {
		want := failure(5)
		if valid {
			want = impl.Value{Kind: 1, N: n}
		}
		got := impl.CheckedNumber(n)
		if !reflect.DeepEqual(normal(got), want) || !impl.IsValidValue(got) {
			t.Errorf("CheckedNumber(%d) = %+v, want %+v", n, got, want)
		}
	}
}

// edgeNumbers returns valid numbers the sums, differences and products of which lie on both sides of the limits.
func edgeNumbers() []int {
	all := []int{0, 1, 2, 3, 7, 10, 31622, 31623, 32768, 65536, 100000, 333333333, 333333334, 499999999, 500000000, 500000001, 999999997, 999999998, 999999999, 1000000000}
	for _, n := range all[1:] {
		all = append(all, -n)
	}
	return all
}

// exact returns the number, computed without wrapping around, or ErrorRange.
func exact(op int, a, b int) impl.Value {
	x, y, n := big.NewInt(int64(a)), big.NewInt(int64(b)), new(big.Int)
	switch op {
	case impl.OpAdd:
		n.Add(x, y)
	case impl.OpSubtract:
		n.Sub(x, y)
	case impl.OpMultiply:
		n.Mul(x, y)
	}
	if n.CmpAbs(big.NewInt(1000000000)) > 0 {
		return failure(5)
	}
	return impl.Value{Kind: 1, N: int(n.Int64())}
}

func TestOperatorsOnNumbers(t *testing.T) {
	list := edgeNumbers()
	for n := -12; n <= 12; n++ {
		list = append(list, n)
	}
	for _, a := range list {
		for _, b := range list {
			x, y := impl.NumberValue(a), impl.NumberValue(b)
			for _, op := range everyOperator()[:3] {
				checkOperator(t, op, x, y, exact(op, a, b))
			}
			checkOperator(t, impl.OpLess, x, y, truth(a < b))
			checkOperator(t, impl.OpSame, x, y, truth(a == b))
		}
	}
}

func TestOperatorsAtTheLimits(t *testing.T) {
	const limit = 1000000000
	number := impl.NumberValue
	for _, c := range []struct {
		op, a, b int
		want     impl.Value
	}{
		{impl.OpAdd, 2, 3, number(5)},
		{impl.OpAdd, limit - 1, 1, number(limit)},
		{impl.OpAdd, limit, 1, failure(5)},
		{impl.OpAdd, 1, limit, failure(5)},
		{impl.OpAdd, 600000000, 400000000, number(limit)},
		{impl.OpAdd, 600000000, 400000001, failure(5)},
		{impl.OpAdd, 1 - limit, -1, number(-limit)},
		{impl.OpAdd, -limit, -1, failure(5)},
		{impl.OpAdd, limit, -limit, number(0)},
		{impl.OpAdd, limit, limit, failure(5)},
		{impl.OpAdd, -limit, -limit, failure(5)},
		{impl.OpSubtract, 2, 3, number(-1)},
		{impl.OpSubtract, 3, 2, number(1)},
		{impl.OpSubtract, limit - 1, -1, number(limit)},
		{impl.OpSubtract, limit, -1, failure(5)},
		{impl.OpSubtract, 0, limit, number(-limit)},
		{impl.OpSubtract, -1, limit, failure(5)},
		{impl.OpSubtract, 0, -limit, number(limit)},
		{impl.OpSubtract, 1, -limit, failure(5)},
		{impl.OpSubtract, 1 - limit, 1, number(-limit)},
		{impl.OpSubtract, -limit, 1, failure(5)},
		{impl.OpMultiply, -2, 3, number(-6)},
		{impl.OpMultiply, 50000, 20000, number(limit)},
		{impl.OpMultiply, 50000, -20000, number(-limit)},
		{impl.OpMultiply, -50000, -20000, number(limit)},
		// The products of these are one beyond the limit: 1000000001 is 7 * 11 * 13 * 19 * 52579.
		{impl.OpMultiply, 1001, 999001, failure(5)},
		{impl.OpMultiply, 19019, 52579, failure(5)},
		{impl.OpMultiply, 19019, -52579, failure(5)},
		{impl.OpMultiply, limit, 1, number(limit)},
		{impl.OpMultiply, limit, -1, number(-limit)},
		{impl.OpMultiply, limit, 0, number(0)},
		{impl.OpMultiply, limit, 2, failure(5)},
		{impl.OpMultiply, limit, limit, failure(5)},
		{impl.OpMultiply, limit, -limit, failure(5)},
		// What is left of these powers of 2 in 32 bits would be a valid number.
		{impl.OpMultiply, 65536, 65536, failure(5)},
		{impl.OpMultiply, 262144, 262144, failure(5)},
	} {
		checkOperator(t, c.op, number(c.a), number(c.b), c.want)
	}
}

func TestAddTexts(t *testing.T) {
	for _, c := range [][3]string{
		{"", "", ""}, {"a", "", "a"}, {"", "a", "a"}, {"a", "b", "ab"}, {"b", "a", "ba"}, {"ab", "ab", "abab"}, {" ", " ", "  "},
		{"1", "2", "12"}, {"~!", " \\'", "~! \\'"}, {"let", "x", "letx"},
	} {
		checkOperator(t, impl.OpAdd, impl.TextValue(c[0]), impl.TextValue(c[1]), impl.Value{Kind: 2, Text: c[2]})
	}
	letters := "abcdefghijklmnopqrstuvwxyz"
	for m := range 21 {
		for n := range 21 {
			a, b := letters[:m], strings.ToUpper(letters)[:n]
			want := impl.Value{Kind: 2, Text: a + b}
			if m+n > 20 {
				want = failure(6)
			}
			checkOperator(t, impl.OpAdd, impl.TextValue(a), impl.TextValue(b), want)
		}
	}
}

func TestAddLists(t *testing.T) {
	count := func(from, size int) []int {
		list := make([]int, size)
		for i := range list {
			list[i] = from + i
		}
		return list
	}
	for m := range 9 {
		for n := range 9 {
			want := numbers(slices.Concat(count(10, m), count(20, n))...)
			if m+n > 8 {
				want = failure(6)
			}
			checkOperator(t, impl.OpAdd, numbers(count(10, m)...), numbers(count(20, n)...), want)
		}
	}
	text := impl.TextValue("x")
	checkOperator(t, impl.OpAdd, numbers(), numbers(), impl.Value{Kind: 3})
	checkOperator(t, impl.OpAdd, listOf(text), numbers(1), listOf(text, impl.NumberValue(1)))
	checkOperator(t, impl.OpAdd, numbers(1), listOf(text), listOf(impl.NumberValue(1), text))
	checkOperator(t, impl.OpAdd, listOf(numbers(1, 2), text), listOf(numbers()), listOf(numbers(1, 2), text, numbers()))
	checkOperator(t, impl.OpAdd, nested(2), numbers(), nested(2))
	checkOperator(t, impl.OpAdd, numbers(), nested(3), nested(3))
	checkOperator(t, impl.OpAdd, nested(3), nested(3), listOf(nested(2), nested(2)))
	checkOperator(t, impl.OpAdd, nested(2), nested(3), listOf(numbers(), nested(2)))
	long := numbers(1, 2, 3, 4, 5, 6, 7, 8)
	checkOperator(t, impl.OpAdd, listOf(long, long), listOf(long), listOf(long, long, long))
	// The elements of the elements do not count.
	full := listOf(slices.Repeat([]impl.Value{long}, 8)...)
	checkOperator(t, impl.OpAdd, full, numbers(), full)
	checkOperator(t, impl.OpAdd, numbers(), full, full)
	checkOperator(t, impl.OpAdd, full, numbers(1), failure(6))
	checkOperator(t, impl.OpAdd, nested(3), full, failure(6))
}

func TestCompareTexts(t *testing.T) {
	list := []string{"", "a", "ab", "b", "aa", "aaa", "A", "Z", "z", " ", "  ", "~", "!", "0", "1", "10", "2", "9", "abc", "abd", "ab ", "ab~", "a b", strings.Repeat("x", 20), strings.Repeat("x", 19), strings.Repeat("x", 19) + "w", strings.Repeat("x", 19) + "y"}
	for size := range 4 {
		list = append(list, stringsOver(" aZ~", size)...)
	}
	for _, a := range list {
		for _, b := range list {
			x, y := impl.TextValue(a), impl.TextValue(b)
			checkOperator(t, impl.OpLess, x, y, truth(bytes.Compare([]byte(a), []byte(b)) < 0))
			checkOperator(t, impl.OpSame, x, y, truth(a == b))
		}
	}
	for _, c := range []struct {
		a, b string
		want bool
	}{
		{"", "a", true}, {"a", "", false}, {"", "", false}, {"a", "a", false}, {"a", "ab", true}, {"ab", "a", false},
		{"ab", "b", true}, {"B", "a", true}, {"a", "B", false}, {"10", "9", true}, {"9", "10", false}, {"a ", "a", false}, {"a b", "ab", true},
	} {
		checkOperator(t, impl.OpLess, impl.TextValue(c.a), impl.TextValue(c.b), truth(c.want))
	}
}

// operands are the valid values that are not errors.
func operands() []impl.Value {
	return slices.DeleteFunc(validValues(), func(v impl.Value) bool { return v.Kind == impl.ValueError })
}

func TestSameOfAllKinds(t *testing.T) {
	for _, a := range operands() {
		for _, b := range operands() {
			want := reflect.DeepEqual(withoutOrigins(a), withoutOrigins(b))
			checkOperator(t, impl.OpSame, a, b, truth(want))
			checkOperator(t, impl.OpSame, a, spacious(b), truth(want))
		}
	}
	for _, c := range []struct {
		a, b impl.Value
		want bool
	}{
		{impl.NumberValue(1), impl.TextValue("1"), false},
		{impl.NumberValue(0), impl.TextValue(""), false},
		{impl.NumberValue(0), numbers(), false},
		{impl.TextValue(""), numbers(), false},
		{impl.NumberValue(1), numbers(1), false},
		{impl.NumberValue(1), impl.StreamValue(1, 0), false},
		{numbers(1, 2), numbers(1, 2), true},
		{numbers(1, 2), numbers(2, 1), false},
		{numbers(1), numbers(1, 1), false},
		{listOf(numbers(1)), listOf(numbers(1)), true},
		{listOf(numbers(1)), listOf(numbers(2)), false},
		{impl.StreamValue(1, 2), impl.StreamValue(1, 2), true},
		{impl.StreamValue(1, 2), impl.StreamValue(2, 1), false},
		{impl.StreamValue(1, 2), impl.StreamValue(1, 3), false},
		{impl.StreamValue(0, 0), impl.StreamValue(0, 0), true},
		{impl.StreamValue(0, 0), impl.StreamValue(0, 1), false},
		{tableValue([]string{"a"}), tableValue([]string{"b"}), false},
		{tableValue([]string{"a"}, []int{1}), tableValue([]string{"a"}, []int{1}), true},
		{tableValue([]string{"a"}, []int{1}), tableValue([]string{"a"}, []int{2}), false},
		{tableValue([]string{"a"}, []int{1}), tableValue([]string{"a"}), false},
		{tableValue([]string{"a"}, []int{1}), numbers(1), false},
	} {
		checkBothWays(t, impl.OpSame, c.a, c.b, truth(c.want))
	}
}

func TestSameIgnoresOrigins(t *testing.T) {
	froms := [][]impl.Origin{nil, {}, {{}}, {{Cell: 1}}, {{Row: 1}}, {{Cell: 1}, {Cell: 1, Row: 1}}, {{Cell: 7, Row: 3}, {Cell: math.MaxInt, Row: math.MaxInt}}}
	for _, first := range froms {
		for _, second := range froms {
			checkOperator(t, impl.OpSame, tableFrom(first...), tableFrom(second...), truth(true))
			other := tableFrom(second...)
			other.Rows[0].Cells = []int{2}
			checkBothWays(t, impl.OpSame, tableFrom(first...), other, truth(false))
		}
	}
}

// meaning is the result for operands that are valid and not errors, found with none of the functions that are tested.
func meaning(op int, a, b impl.Value) impl.Value {
	kinds := [2]int{a.Kind, b.Kind}
	number, text, list := [2]int{1, 1}, [2]int{2, 2}, [2]int{3, 3}
	switch {
	case op == 5:
		return truth(reflect.DeepEqual(withoutOrigins(a), withoutOrigins(b)))
	case op >= 1 && op <= 3 && kinds == number:
		return exact(op, a.N, b.N)
	case op == 4 && kinds == number:
		return truth(a.N < b.N)
	case op == 4 && kinds == text:
		return truth(bytes.Compare([]byte(a.Text), []byte(b.Text)) < 0)
	case op == 1 && kinds == text && len(a.Text)+len(b.Text) <= 20:
		return impl.Value{Kind: 2, Text: a.Text + b.Text}
	case op == 1 && kinds == list && len(a.List)+len(b.List) <= 8:
		return listOf(slices.Concat(a.List, b.List)...)
	case op == 1 && (kinds == text || kinds == list):
		return failure(6)
	}
	return failure(4)
}

func TestOperatorsOnAllKinds(t *testing.T) {
	for _, op := range everyNumberOfAnOperator() {
		for _, a := range operands() {
			for _, b := range operands() {
				checkOperator(t, op, a, b, meaning(op, a, b))
			}
		}
	}
}

// Each operator has ErrorType for the kinds that it does not take, and takes the others.
func TestOperatorsTakeTheirKinds(t *testing.T) {
	samples := []impl.Value{
		1: impl.NumberValue(1),
		2: impl.TextValue("1"),
		3: numbers(1),
		4: impl.StreamValue(1, 1),
		5: tableFrom(impl.Origin{Cell: 1}),
	}
	takes := map[int][]int{
		impl.OpAdd: {1, 2, 3}, impl.OpSubtract: {1}, impl.OpMultiply: {1}, impl.OpLess: {1, 2},
	}
	for op, kinds := range takes {
		for a := 1; a <= 5; a++ {
			for b := 1; b <= 5; b++ {
				got := impl.ApplyOperator(op, samples[a], samples[b])
				taken := a == b && slices.Contains(kinds, a)
				if refused := impl.EqualValue(got, failure(4)); refused == taken {
					t.Errorf("ApplyOperator(%d, %+v, %+v) = %+v", op, samples[a], samples[b], got)
				}
			}
		}
	}
	for _, op := range noOperators() {
		for a := 1; a <= 5; a++ {
			for b := 1; b <= 5; b++ {
				checkOperator(t, op, samples[a], samples[b], failure(4))
			}
		}
	}
}

// A failing is an operand that decides the result, and the error that it makes the result.
type failing struct {
	v    impl.Value
	code int
}

func failings() []failing {
	var all []failing
	for code := 1; code <= 8; code++ {
		all = append(all, failing{impl.ErrorValue(code), code})
	}
	for _, v := range invalidValues() {
		all = append(all, failing{v, 4})
	}
	// An error with something else in it is not valid, and so no error that is passed on.
	for _, s := range strays() {
		v := impl.ErrorValue(3)
		if s.field != "N" {
			s.set(&v)
			all = append(all, failing{v, 4})
		}
	}
	return append(all, failing{fullValue(), 4})
}

func TestOneFailingOperand(t *testing.T) {
	for _, op := range everyNumberOfAnOperator() {
		for _, f := range failings() {
			for _, good := range operands() {
				checkBothWays(t, op, f.v, good, failure(f.code))
			}
		}
	}
}

func TestTwoFailingOperands(t *testing.T) {
	for _, op := range everyNumberOfAnOperator() {
		for _, first := range failings() {
			for _, second := range failings() {
				checkOperator(t, op, first.v, second.v, failure(first.code))
			}
		}
	}
}

func TestOperandErrorsKnown(t *testing.T) {
	number, text := impl.NumberValue(1), impl.TextValue("a")
	missing, syntax := impl.ErrorValue(1), impl.ErrorValue(8)
	invalid := impl.NumberValue(impl.MaxNumber + 1)
	for _, op := range everyNumberOfAnOperator() {
		checkBothWays(t, op, number, missing, missing)
		checkBothWays(t, op, text, syntax, syntax)
		checkOperator(t, op, missing, syntax, missing)
		checkOperator(t, op, syntax, missing, syntax)
		checkOperator(t, op, missing, missing, missing)
		checkOperator(t, op, missing, invalid, missing)
		checkOperator(t, op, invalid, missing, failure(4))
		checkOperator(t, op, invalid, invalid, failure(4))
		checkBothWays(t, op, invalid, text, failure(4))
		checkBothWays(t, op, numbers(impl.MaxNumber+1), number, failure(4))
		checkBothWays(t, op, impl.ErrorValue(0), number, failure(4))
		checkBothWays(t, op, impl.ErrorValue(9), number, failure(4))
		// An error in a list makes the list invalid.
		checkOperator(t, op, listOf(missing), syntax, failure(4))
		checkOperator(t, op, syntax, listOf(missing), syntax)
	}
	// The operands would be too large together, but the second one is an error.
	checkBothWays(t, impl.OpAdd, impl.NumberValue(impl.MaxNumber), impl.ErrorValue(2), failure(2))
	checkBothWays(t, impl.OpAdd, impl.TextValue(strings.Repeat("x", 20)), impl.ErrorValue(7), failure(7))
	checkBothWays(t, impl.OpAdd, impl.TextValue(strings.Repeat("x", 21)), impl.TextValue("x"), failure(4))
	checkBothWays(t, impl.OpAdd, numbers(1, 2, 3, 4, 5, 6, 7, 8, 9), numbers(1), failure(4))
	checkBothWays(t, impl.OpAdd, nested(4), numbers(), failure(4))
}

// codeOf returns the code of an error, and 0 for other values.
func codeOf(v impl.Value) int {
	if v.Kind == 6 {
		return v.N
	}
	return 0
}

func TestOperatorsRandomValues(t *testing.T) {
	random := rand.New(rand.NewSource(5))
	bad := failings()
	for range 20000 {
		f := []failing{{}, {}}
		for i := range f {
			f[i].v = randomValue(random, 0)
			f[i].code = codeOf(f[i].v)
			if random.Intn(8) == 0 {
				f[i] = bad[random.Intn(len(bad))]
			}
		}
		if random.Intn(8) == 0 {
			f[1] = f[0]
		}
		a, b := f[0], f[1]
		for _, op := range append(everyOperator(), random.Intn(9)-2) {
			want := failure(a.code)
			if a.code == 0 && b.code == 0 {
				want = meaning(op, a.v, b.v)
			} else if a.code == 0 {
				want = failure(b.code)
			}
			checkOperator(t, op, a.v, b.v, want)
		}
	}
}

// Promise 48: every function is total and does not modify its arguments.

// largeValues are invalid values that are too large for what walks through all of them by calling itself.
func largeValues() []impl.Value {
	const size = 300000
	self := make([]impl.Value, 1)
	self[0] = impl.Value{Kind: impl.ValueList, List: self}
	return []impl.Value{
		nested(size), numbers(make([]int, size)...), impl.TextValue(strings.Repeat("x", size)),
		tableValue([]string{"a"}, make([][]int, size)...), self[0],
	}
}

func TestOperatorsOfLargeValues(t *testing.T) {
	for _, v := range largeValues() {
		for _, op := range everyNumberOfAnOperator() {
			checkLarge(t, op, v, impl.NumberValue(1), 4)
			checkLarge(t, op, impl.NumberValue(1), v, 4)
			checkLarge(t, op, v, v, 4)
			checkLarge(t, op, impl.ErrorValue(2), v, 2)
			checkLarge(t, op, v, impl.ErrorValue(2), 4)
		}
		if impl.IsTrue(v) {
			t.Error("IsTrue of a large value")
		}
	}
}

// checkLarge does not print its operands.
func checkLarge(t *testing.T, op int, a, b impl.Value, code int) {
	t.Helper()
	if got := impl.ApplyOperator(op, a, b); !reflect.DeepEqual(normal(got), failure(code)) {
		t.Errorf("ApplyOperator(%d) of a large value = %+v, want the error %d", op, got, code)
	}
}

// operandPairs are pairs of operands for which every operator has something to do, and failing ones.
func operandPairs() [][2]impl.Value {
	table := tableFrom(impl.Origin{Cell: 1}, impl.Origin{Cell: 2, Row: 5})
	pairs := [][2]impl.Value{
		{impl.NumberValue(2), impl.NumberValue(3)},
		{impl.TextValue("ab"), impl.TextValue("ab")},
		{numbers(), numbers()},
		{numbers(1, 2), numbers(3)},
		{numbers(1, 2), numbers(1, 2)},
		{listOf(numbers(1), nested(2)), listOf(numbers(1), numbers(1))},
		{listOf(numbers(1, 2), impl.TextValue("a")), numbers()},
		{numbers(), listOf(numbers(1, 2), impl.TextValue("a"))},
		{numbers(1, 2, 3, 4), numbers(1, 2, 3, 4, 5)},
		{impl.StreamValue(1, 2), impl.StreamValue(1, 2)},
		{table, table},
		{table, tableFrom()},
		{impl.ErrorValue(3), impl.ErrorValue(3)},
		{fullValue(), fullValue()},
	}
	for _, f := range failings()[:12] {
		pairs = append(pairs, [2]impl.Value{f.v, numbers(1)}, [2]impl.Value{numbers(1), f.v})
	}
	return pairs
}

func TestOperatorsKeepTheirArguments(t *testing.T) {
	for _, pair := range operandPairs() {
		for _, op := range everyNumberOfAnOperator() {
			a, b := spacious(pair[0]), spacious(pair[1])
			wantA, wantB := whole(a), whole(b)
			result := impl.ApplyOperator(op, a, b)
			impl.IsTrue(a)
			if !reflect.DeepEqual(whole(a), wantA) || !reflect.DeepEqual(whole(b), wantB) {
				t.Errorf("ApplyOperator(%d) changed its operands %+v, %+v to %+v, %+v", op, wantA, wantB, whole(a), whole(b))
			}
			want := normal(impl.ApplyOperator(op, pair[0], pair[1]))
			if !reflect.DeepEqual(normal(result), want) {
				t.Errorf("ApplyOperator(%d, %+v, %+v) = %+v, with spare capacity %+v", op, pair[0], pair[1], want, result)
			}
			spoil(result)
			if !reflect.DeepEqual(whole(a), wantA) || !reflect.DeepEqual(whole(b), wantB) {
				t.Errorf("the result of ApplyOperator(%d) shares memory with its operands %+v, %+v", op, wantA, wantB)
			}
		}
	}
}

func TestOperatorResultsAreIndependent(t *testing.T) {
	for _, pair := range operandPairs() {
		for _, op := range everyNumberOfAnOperator() {
			a, b := spacious(pair[0]), spacious(pair[1])
			first, second := impl.ApplyOperator(op, a, b), impl.ApplyOperator(op, a, b)
			want := normal(first)
			spoil(a)
			spoil(b)
			if !reflect.DeepEqual(normal(first), want) || !reflect.DeepEqual(normal(second), want) {
				t.Errorf("the result of ApplyOperator(%d, %+v, %+v) changed with its operands", op, pair[0], pair[1])
			}
			spoil(second)
			if !reflect.DeepEqual(normal(first), want) {
				t.Errorf("the result of ApplyOperator(%d, %+v, %+v) changed with another result", op, pair[0], pair[1])
			}
			for i := range spoilers(first) {
				checkOneSpoiled(t, impl.ApplyOperator(op, spacious(pair[0]), spacious(pair[1])), i)
			}
		}
	}
}

// One value as both operands: no two slices of the result may be the same memory.
func TestOperatorOnOneValueTwice(t *testing.T) {
	for _, sample := range []impl.Value{numbers(), numbers(1, 2), listOf(numbers(1), numbers(2, 3)), listOf(nested(2), numbers(4)), listOf(numbers(1), numbers(1))} {
		v := spacious(sample)
		want := listOf(slices.Concat(normal(sample).List, normal(sample).List)...)
		checkOperator(t, impl.OpAdd, v, v, want)
		for i := range spoilers(impl.ApplyOperator(impl.OpAdd, v, v)) {
			checkOneSpoiled(t, impl.ApplyOperator(impl.OpAdd, v, v), i)
		}
	}
	// A list that contains the same memory twice.
	inner := numbers(1, 2)
	twice := listOf(inner, inner)
	for i := range spoilers(impl.ApplyOperator(impl.OpAdd, twice, twice)) {
		checkOneSpoiled(t, impl.ApplyOperator(impl.OpAdd, twice, twice), i)
	}
}
