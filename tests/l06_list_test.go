package tests

import (
	"math"
	"math/big"
	"math/rand"
	"reflect"
	"slices"
	"strings"
	"testing"

	"loop.example/g00510/impl"
)

// Promise 6: the first elements followed by the others are the whole list.

const limit = 1000000000

// A valueFunction is a function of values to a value and its meaning: its result for operands that are valid and not errors,
// found with none of the functions that are tested.
type valueFunction struct {
	name    string
	count   int
	call    func(operands ...impl.Value) impl.Value
	meaning func(operands ...impl.Value) impl.Value
}

func ofOne(f func(v impl.Value) impl.Value) func(...impl.Value) impl.Value {
	return func(operands ...impl.Value) impl.Value { return f(operands[0]) }
}

func ofTwo(f func(n, v impl.Value) impl.Value) func(...impl.Value) impl.Value {
	return func(operands ...impl.Value) impl.Value { return f(operands[0], operands[1]) }
}

func lengthOf() valueFunction {
	return valueFunction{"LengthOf", 1, ofOne(impl.LengthOf), ofOne(lengthMeaning)}
}

func sumOf() valueFunction { return valueFunction{"SumOf", 1, ofOne(impl.SumOf), ofOne(sumMeaning)} }

func nthOf() valueFunction { return valueFunction{"NthOf", 2, ofTwo(impl.NthOf), ofTwo(nthMeaning)} }

func takeOf() valueFunction {
	return valueFunction{"TakeOf", 2, ofTwo(impl.TakeOf), ofTwo(takeMeaning)}
}

func skipOf() valueFunction {
	return valueFunction{"SkipOf", 2, ofTwo(impl.SkipOf), ofTwo(skipMeaning)}
}

func functionsOfOne() []valueFunction { return []valueFunction{lengthOf(), sumOf()} }

func functionsOfTwo() []valueFunction { return []valueFunction{nthOf(), takeOf(), skipOf()} }

func everyListFunction() []valueFunction { return append(functionsOfOne(), functionsOfTwo()...) }

func (f valueFunction) check(t *testing.T, want impl.Value, operands ...impl.Value) {
	t.Helper()
	got := f.call(operands...)
	if !reflect.DeepEqual(normal(got), normal(want)) {
		t.Errorf("%s of %+v = %+v, want %+v", f.name, operands, got, want)
	}
	if !impl.IsValidValue(got) {
		t.Errorf("%s of %+v = %+v, which is not valid", f.name, operands, got)
	}
}

func (f valueFunction) checkMeaning(t *testing.T, operands ...impl.Value) {
	t.Helper()
	f.check(t, f.meaning(operands...), operands...)
}

func lengthMeaning(v impl.Value) impl.Value {
	switch v.Kind {
	case 2:
		return impl.Value{Kind: 1, N: len([]byte(v.Text))}
	case 3:
		return impl.Value{Kind: 1, N: len(v.List)}
	}
	return failure(4)
}

func sumMeaning(v impl.Value) impl.Value {
	if v.Kind != 3 {
		return failure(4)
	}
	sum := new(big.Int)
	for _, element := range v.List {
		if element.Kind != 1 {
			return failure(4)
		}
		sum.Add(sum, big.NewInt(int64(element.N)))
		if sum.CmpAbs(big.NewInt(limit)) > 0 {
			return failure(5)
		}
	}
	return impl.Value{Kind: 1, N: int(sum.Int64())}
}

// elementMeaning is element n of a list or a stream, computed without wrapping around.
func elementMeaning(n int, v impl.Value) impl.Value {
	if n < 0 || v.Kind == 3 && n >= len(v.List) {
		return failure(5)
	}
	if v.Kind == 3 {
		return v.List[n]
	}
	sum := new(big.Int).Mul(big.NewInt(int64(n)), big.NewInt(int64(v.Step)))
	sum.Add(sum, big.NewInt(int64(v.N)))
	if sum.CmpAbs(big.NewInt(limit)) > 0 {
		return failure(5)
	}
	return impl.Value{Kind: 1, N: int(sum.Int64())}
}

func haveElements(n, v impl.Value) bool { return n.Kind == 1 && (v.Kind == 3 || v.Kind == 4) }

func nthMeaning(n, v impl.Value) impl.Value {
	if !haveElements(n, v) {
		return failure(4)
	}
	return elementMeaning(n.N, v)
}

func takeMeaning(n, v impl.Value) impl.Value {
	if !haveElements(n, v) {
		return failure(4)
	}
	if n.N < 0 || n.N > 8 {
		return failure(5)
	}
	taken := listOf()
	for i := 0; i < n.N && !(v.Kind == 3 && i == len(v.List)); i++ {
		element := elementMeaning(i, v)
		if element.Kind == 6 {
			return element
		}
		taken.List = append(taken.List, element)
	}
	return taken
}

func skipMeaning(n, v impl.Value) impl.Value {
	if !haveElements(n, v) {
		return failure(4)
	}
	if n.N < 0 {
		return failure(5)
	}
	if v.Kind == 4 {
		element := elementMeaning(n.N, v)
		if element.Kind == 6 {
			return element
		}
		return impl.Value{Kind: 4, N: element.N, Step: v.Step}
	}
	others := listOf()
	for i, element := range v.List {
		if i >= n.N {
			others.List = append(others.List, element)
		}
	}
	return others
}

// upTo returns the list of the numbers 10, 11, 12 and so on with this size.
func upTo(size int) impl.Value {
	var list []int
	for i := range size {
		list = append(list, 10+i)
	}
	return numbers(list...)
}

// longLists are valid lists with MaxList elements of each kind that an element may have.
func longLists() []impl.Value {
	var all []impl.Value
	for _, element := range []impl.Value{impl.NumberValue(7), impl.TextValue("ab"), impl.TextValue(""), numbers(), numbers(1, 2, 3), nested(2)} {
		all = append(all, listOf(slices.Repeat([]impl.Value{element}, 8)...))
	}
	return all
}

// mixedLists are valid lists the elements of which differ from each other.
func mixedLists() []impl.Value {
	text, one := impl.TextValue("ab"), impl.NumberValue(1)
	return []impl.Value{
		listOf(one, text, numbers(1, 2), numbers()),
		listOf(numbers(1), numbers(2, 3), numbers(), nested(2), listOf(text)),
		listOf(text, impl.TextValue(""), impl.TextValue("b"), numbers(5), one, numbers(6, 7), impl.NumberValue(-limit), impl.NumberValue(limit)),
	}
}

// elementNumbers are valid numbers on both sides of what the functions accept as a number of elements.
func elementNumbers() []int {
	all := []int{-limit, 1 - limit, -65536, -8, -2, -1, 13, 65536, 499999999, 500000000, 500000001, 999999999, limit}
	for n := range 13 {
		all = append(all, n)
	}
	return all
}

func TestLengthOfKnown(t *testing.T) {
	for _, c := range []struct {
		v    impl.Value
		want int
	}{
		{numbers(), 0}, {numbers(5), 1}, {numbers(1, 2, 3), 3}, {impl.TextValue(""), 0}, {impl.TextValue("a"), 1},
		{impl.TextValue("a b"), 3}, {impl.TextValue("   "), 3}, {impl.TextValue("[1, 2]"), 6}, {impl.TextValue(strings.Repeat("x", 20)), 20},
		// The elements of elements do not count.
		{listOf(numbers()), 1}, {listOf(numbers(1, 2, 3), numbers(4)), 2}, {nested(3), 1}, {listOf(impl.TextValue("abc")), 1},
	} {
		lengthOf().check(t, impl.Value{Kind: 1, N: c.want}, c.v)
	}
	for size := range 9 {
		lengthOf().check(t, impl.Value{Kind: 1, N: size}, upTo(size))
	}
	for size := range 21 {
		lengthOf().check(t, impl.Value{Kind: 1, N: size}, impl.TextValue(strings.Repeat("~", size)))
	}
	for _, v := range longLists() {
		lengthOf().check(t, impl.Value{Kind: 1, N: 8}, v)
	}
}

func TestLengthAndSumOfOtherKinds(t *testing.T) {
	for _, v := range []impl.Value{
		impl.NumberValue(0), impl.NumberValue(5), impl.NumberValue(-limit), impl.StreamValue(0, 0), impl.StreamValue(1, 2),
		tableValue([]string{"a"}), tableFrom(impl.Origin{Cell: 1}), tableValue([]string{"a", "b"}, []int{1, 2}),
	} {
		lengthOf().check(t, failure(4), v)
		sumOf().check(t, failure(4), v)
	}
	sumOf().check(t, failure(4), impl.TextValue(""))
	sumOf().check(t, failure(4), impl.TextValue("12"))
}

func TestSumOfKnown(t *testing.T) {
	for _, c := range []struct {
		v    impl.Value
		want int
	}{
		{numbers(), 0}, {numbers(0), 0}, {numbers(5), 5}, {numbers(-5), -5}, {numbers(1, 2, 3), 6}, {numbers(1, 2, 3, 4, 5, 6, 7, 8), 36},
		{numbers(3, -4, 0, 1), 0}, {numbers(limit), limit}, {numbers(-limit), -limit}, {numbers(limit, 0), limit}, {numbers(0, -limit), -limit},
		{numbers(limit, -1, 1), limit}, {numbers(limit, -limit, limit), limit}, {numbers(-limit, limit, -limit), -limit},
		{numbers(limit-1, 1), limit}, {numbers(1-limit, -1), -limit}, {numbers(limit-1, 1, -limit, -limit), -limit},
		{numbers(limit, -limit, -limit, limit, 7), 7}, {numbers(-limit, limit, limit), limit},
	} {
		sumOf().check(t, impl.Value{Kind: 1, N: c.want}, c.v)
	}
	// A later element would bring the sum back into range.
	for _, v := range []impl.Value{
		numbers(limit, 1), numbers(limit, 1, -1), numbers(limit, 1, -limit), numbers(1, limit, -1), numbers(limit, limit, -limit), numbers(limit-1, 2, -2),
		numbers(-limit, -1), numbers(-limit, -1, 1), numbers(-limit, -1, limit), numbers(-1, -limit, 1), numbers(-limit, -limit, limit), numbers(1-limit, -2, 2),
		numbers(1, 1, limit, -2), numbers(0, 0, 0, 0, 0, limit, 1, -1), numbers(limit, 1, -1, -1, 1, 1, -limit, 0), numbers(limit, limit, limit, limit, -limit, -limit, -limit, -limit),
	} {
		sumOf().check(t, failure(5), v)
	}
}

func TestSumOfOtherElements(t *testing.T) {
	one, most, least := impl.NumberValue(1), impl.NumberValue(limit), impl.NumberValue(-limit)
	for _, other := range []impl.Value{impl.TextValue(""), impl.TextValue("1"), numbers(), numbers(1), nested(2), listOf(impl.TextValue("a"))} {
		for _, v := range []impl.Value{
			listOf(other), listOf(other, one), listOf(one, other), listOf(one, other, one), listOf(other, other),
			listOf(one, one, one, one, one, one, one, other), listOf(most, other), listOf(most, least, other),
			// The partial sum would be out of range only after the element that is not a number.
			listOf(other, most, one), listOf(most, other, one), listOf(least, other, least), listOf(most, other, most, least),
		} {
			sumOf().check(t, failure(4), v)
		}
		for _, v := range []impl.Value{
			listOf(most, one, other), listOf(most, one, least, other), listOf(least, least, other), listOf(least, least, most, other, one),
			listOf(one, most, other, other), listOf(most, most, least, least, one, one, one, other),
		} {
			sumOf().check(t, failure(5), v)
		}
	}
}

func TestSumOfAllShortLists(t *testing.T) {
	elements := []impl.Value{impl.TextValue("1"), numbers(1)}
	for _, n := range []int{0, 1, -1, 500000000, -500000001, limit, -limit} {
		elements = append(elements, impl.NumberValue(n))
	}
	lists := [][]impl.Value{nil}
	for range 5 {
		var longer [][]impl.Value
		for _, list := range lists {
			sumOf().checkMeaning(t, listOf(list...))
			lengthOf().checkMeaning(t, listOf(list...))
			for _, element := range elements {
				longer = append(longer, append(slices.Clone(list), element))
			}
		}
		lists = longer
	}
}

func TestNthOfLists(t *testing.T) {
	number := impl.NumberValue
	for size := range 9 {
		v := upTo(size)
		for i := range size {
			nthOf().check(t, number(10+i), number(i), v)
		}
		for _, n := range []int{size, size + 1, 8, 9, limit, -1, -2, -size, -size - 1, -limit, 65536, 256} {
			if n < 0 || n >= size {
				nthOf().check(t, failure(5), number(n), v)
			}
		}
	}
	text := impl.TextValue("ab")
	v := listOf(text, numbers(), numbers(1, 2), number(-limit), nested(2), listOf(text))
	for i, want := range []impl.Value{text, numbers(), numbers(1, 2), number(-limit), nested(2), listOf(text)} {
		nthOf().check(t, want, number(i), v)
	}
	nthOf().check(t, failure(5), number(6), v)
	for _, v := range append(longLists(), mixedLists()...) {
		nthOf().check(t, v.List[0], number(0), v)
		nthOf().check(t, v.List[len(v.List)-1], number(len(v.List)-1), v)
		nthOf().check(t, failure(5), number(len(v.List)), v)
		nthOf().check(t, failure(5), number(-1), v)
		nthOf().check(t, failure(5), number(limit), v)
	}
	// An element that is a list has its own elements.
	nthOf().check(t, number(2), number(1), impl.NthOf(number(2), v))
	nthOf().check(t, numbers(), number(0), nested(2))
	nthOf().check(t, nested(2), number(0), nested(3))
}

func TestNthOfStreams(t *testing.T) {
	for _, c := range []struct{ start, step, n, want int }{
		{5, 3, 0, 5}, {5, 3, 1, 8}, {5, 3, 2, 11}, {5, 3, 100, 305}, {5, -3, 0, 5}, {5, -3, 4, -7}, {5, 0, 0, 5}, {5, 0, 9, 5}, {5, 0, limit, 5}, {0, 0, limit, 0},
		{0, 1, limit, limit}, {1, 1, limit - 1, limit}, {0, -1, limit, -limit}, {-1, -1, limit - 1, -limit},
		{limit, 0, 0, limit}, {limit, 0, limit, limit}, {-limit, 0, limit, -limit}, {limit, 1, 0, limit}, {-limit, -1, 0, -limit}, {limit, limit, 0, limit},
		{limit, -1, 1, limit - 1}, {limit, -1, limit, 0}, {-limit, 1, limit, 0}, {-limit, 2, limit, limit}, {limit, -2, limit, -limit},
		{limit - 1, 1, 1, limit}, {1 - limit, -1, 1, -limit}, {-limit, limit, 1, 0}, {-limit, limit, 2, limit}, {limit, -limit, 2, -limit},
		{0, limit, 1, limit}, {0, -limit, 1, -limit}, {0, 500000000, 2, limit}, {-limit, 500000000, 4, limit}, {0, 1000, 1000000, limit}, {7, -31250, 32000, 7 - limit},
	} {
		nthOf().check(t, impl.Value{Kind: 1, N: c.want}, impl.NumberValue(c.n), impl.StreamValue(c.start, c.step))
	}
	for _, c := range []struct{ start, step, n int }{
		{limit, 1, 1}, {-limit, -1, 1}, {limit - 1, 1, 2}, {1 - limit, -1, 2}, {1, 1, limit}, {-1, -1, limit}, {1, limit, 1}, {-1, -limit, 1},
		{1 - limit, 2, limit}, {limit - 1, -2, limit}, {-limit, limit, 3}, {limit, -limit, 3}, {1, 500000000, 2}, {-1, -500000000, 2}, {0, limit, 2}, {0, -limit, 2},
		{0, 2, limit}, {limit, limit, limit}, {-limit, -limit, limit}, {limit, -limit, limit}, {-limit, limit, limit}, {0, limit, limit},
		// What is left of these numbers in 32 bits would be in range.
		{0, 65536, 65536}, {7, -65536, 65536}, {5, 65536, 131072}, {0, 536870912, 8},
	} {
		nthOf().check(t, failure(5), impl.NumberValue(c.n), impl.StreamValue(c.start, c.step))
	}
	for _, n := range []int{-1, -2, -8, -limit} {
		for _, v := range []impl.Value{impl.StreamValue(0, 0), impl.StreamValue(0, 1), impl.StreamValue(5, -3), impl.StreamValue(limit, -limit)} {
			nthOf().check(t, failure(5), impl.NumberValue(n), v)
		}
	}
}

func TestTakeOfLists(t *testing.T) {
	for size := range 9 {
		for n := range 9 {
			takeOf().check(t, upTo(min(n, size)), impl.NumberValue(n), upTo(size))
		}
		// Even a list that has fewer elements: the number itself is out of range.
		for _, n := range []int{9, 10, 16, 256, 65536, limit, -1, -8, -limit} {
			takeOf().check(t, failure(5), impl.NumberValue(n), upTo(size))
		}
	}
	text := impl.TextValue("ab")
	v := listOf(text, numbers(1, 2), impl.NumberValue(3))
	for n, want := range []impl.Value{listOf(), listOf(text), listOf(text, numbers(1, 2)), v, v, v, v, v, v, failure(5)} {
		takeOf().check(t, want, impl.NumberValue(n), v)
	}
	for _, v := range longLists() {
		for n := range 9 {
			takeOf().check(t, listOf(v.List[:n]...), impl.NumberValue(n), v)
		}
	}
}

func TestTakeOfStreams(t *testing.T) {
	for _, c := range []struct {
		start, step, n int
		want           impl.Value
	}{
		{5, 3, 0, numbers()}, {5, 3, 1, numbers(5)}, {5, 3, 3, numbers(5, 8, 11)}, {5, -3, 3, numbers(5, 2, -1)}, {5, 0, 2, numbers(5, 5)},
		{0, 1, 8, numbers(0, 1, 2, 3, 4, 5, 6, 7)}, {0, 0, 8, numbers(0, 0, 0, 0, 0, 0, 0, 0)}, {limit, 0, 3, numbers(limit, limit, limit)},
		{limit, 1, 0, numbers()}, {limit, 1, 1, numbers(limit)}, {-limit, -1, 1, numbers(-limit)}, {limit, limit, 1, numbers(limit)}, {limit, limit, 0, numbers()},
		{limit - 2, 1, 3, numbers(limit-2, limit-1, limit)}, {2 - limit, -1, 3, numbers(2-limit, 1-limit, -limit)},
		{limit, -limit, 3, numbers(limit, 0, -limit)}, {-limit, limit, 3, numbers(-limit, 0, limit)}, {0, limit, 2, numbers(0, limit)},
		{limit - 7, 1, 8, numbers(limit-7, limit-6, limit-5, limit-4, limit-3, limit-2, limit-1, limit)},
		// The last wanted element is the first one out of range.
		{limit, 1, 2, failure(5)}, {-limit, -1, 2, failure(5)}, {limit - 2, 1, 4, failure(5)}, {2 - limit, -1, 4, failure(5)}, {limit - 6, 1, 8, failure(5)},
		{6 - limit, -1, 8, failure(5)}, {limit, -limit, 4, failure(5)}, {-limit, limit, 4, failure(5)}, {0, limit, 3, failure(5)}, {1, limit, 2, failure(5)},
		// One in the middle is.
		{limit, 1, 3, failure(5)}, {limit, 1, 8, failure(5)}, {-limit, -1, 8, failure(5)}, {limit - 2, 1, 8, failure(5)}, {limit - 2, 1, 5, failure(5)},
		{0, limit, 8, failure(5)}, {0, -limit, 5, failure(5)}, {0, 333333334, 6, failure(5)},
		// The number itself is, whatever the elements are.
		{5, 3, 9, failure(5)}, {5, 3, limit, failure(5)}, {5, 3, -1, failure(5)}, {0, 0, 9, failure(5)}, {0, 0, -limit, failure(5)}, {limit, limit, 9, failure(5)}, {limit, limit, -1, failure(5)},
	} {
		takeOf().check(t, c.want, impl.NumberValue(c.n), impl.StreamValue(c.start, c.step))
	}
}

// Element 0 of a valid stream is in range: a stream that starts beyond is no valid operand.
func TestStreamsThatStartOutOfRange(t *testing.T) {
	for _, start := range []int{limit + 1, -limit - 1, math.MaxInt, math.MinInt} {
		for _, step := range []int{0, 1, -1, limit, -limit} {
			for _, n := range []int{0, 1, 2, 8, 9, limit, -1} {
				for _, f := range functionsOfTwo() {
					f.check(t, failure(4), impl.NumberValue(n), impl.StreamValue(start, step))
					f.check(t, failure(4), impl.NumberValue(n), impl.StreamValue(step, start))
				}
			}
		}
	}
}

func TestSkipOfLists(t *testing.T) {
	for size := range 9 {
		whole := upTo(size)
		for n := range 13 {
			skipOf().check(t, listOf(whole.List[min(n, size):]...), impl.NumberValue(n), whole)
		}
		for _, n := range []int{256, 65536, limit - 1, limit} {
			skipOf().check(t, numbers(), impl.NumberValue(n), whole)
		}
		for _, n := range []int{-1, -2, -size, -size - 1, -limit} {
			if n < 0 {
				skipOf().check(t, failure(5), impl.NumberValue(n), whole)
			}
		}
	}
	text := impl.TextValue("ab")
	v := listOf(text, numbers(1, 2), impl.NumberValue(3))
	for n, want := range []impl.Value{v, listOf(numbers(1, 2), impl.NumberValue(3)), numbers(3), listOf(), listOf()} {
		skipOf().check(t, want, impl.NumberValue(n), v)
	}
	skipOf().check(t, numbers(), impl.NumberValue(1), nested(3))
	skipOf().check(t, nested(3), impl.NumberValue(0), nested(3))
}

func TestSkipOfStreams(t *testing.T) {
	for _, c := range []struct{ start, step, n, want int }{
		{5, 3, 0, 5}, {5, 3, 1, 8}, {5, 3, 2, 11}, {5, 3, 9, 32}, {5, 3, 1000, 3005}, {5, -3, 2, -1}, {5, 0, 2, 5}, {5, 0, limit, 5}, {0, 0, 0, 0},
		{limit, 1, 0, limit}, {-limit, -1, 0, -limit}, {limit, limit, 0, limit}, {limit, 0, limit, limit}, {limit, -1, limit, 0}, {0, 1, limit, limit}, {0, -1, limit, -limit},
		{-limit, 2, limit, limit}, {limit, -2, limit, -limit}, {-limit, limit, 2, limit}, {limit, -limit, 2, -limit}, {limit - 1, 1, 1, limit},
	} {
		skipOf().check(t, impl.Value{Kind: 4, N: c.want, Step: c.step}, impl.NumberValue(c.n), impl.StreamValue(c.start, c.step))
	}
	for _, c := range []struct{ start, step, n int }{
		{limit, 1, 1}, {-limit, -1, 1}, {limit - 1, 1, 2}, {1, 1, limit}, {-1, -1, limit}, {limit, limit, limit}, {-limit, limit, 3}, {1 - limit, 2, limit},
		{0, limit, 2}, {0, 65536, 65536}, {5, 3, -1}, {0, 0, -1}, {0, 0, -limit}, {limit, -1, -1}, {limit, 1, -1}, {-limit, 1, -limit},
	} {
		skipOf().check(t, failure(5), impl.NumberValue(c.n), impl.StreamValue(c.start, c.step))
	}
}

func TestListFunctionsOnAllKinds(t *testing.T) {
	counts := operands()
	for _, n := range elementNumbers() {
		counts = append(counts, impl.NumberValue(n))
	}
	for _, v := range slices.Concat(operands(), longLists(), mixedLists()) {
		for _, f := range functionsOfOne() {
			f.checkMeaning(t, v)
		}
		for _, n := range counts {
			for _, f := range functionsOfTwo() {
				f.checkMeaning(t, n, v)
			}
		}
	}
}

func TestListFunctionsOnManyStreams(t *testing.T) {
	for _, start := range edgeNumbers() {
		for _, step := range edgeNumbers() {
			for _, n := range elementNumbers() {
				for _, f := range functionsOfTwo() {
					f.checkMeaning(t, impl.NumberValue(n), impl.StreamValue(start, step))
				}
			}
		}
	}
}

// ErrorType for the kinds comes ahead of ErrorRange for the number.
func TestElementsOfOtherKinds(t *testing.T) {
	notNumbers := []impl.Value{impl.TextValue("1"), impl.TextValue(""), numbers(), numbers(1), impl.StreamValue(1, 1), tableFrom(), tableValue([]string{"a"})}
	withoutElements := []impl.Value{impl.NumberValue(1), impl.NumberValue(0), impl.TextValue("abc"), impl.TextValue(""), tableFrom(), tableValue([]string{"a"}, []int{1}, []int{2})}
	withElements := []impl.Value{numbers(), numbers(1, 2), nested(2), impl.StreamValue(1, 1), impl.StreamValue(limit, limit)}
	for _, f := range functionsOfTwo() {
		for _, n := range notNumbers {
			for _, v := range append(withElements, withoutElements...) {
				f.check(t, failure(4), n, v)
			}
		}
		for _, n := range elementNumbers() {
			for _, v := range withoutElements {
				f.check(t, failure(4), impl.NumberValue(n), v)
			}
		}
		// The operands in the wrong order.
		for _, v := range withElements {
			f.check(t, failure(4), v, impl.NumberValue(1))
		}
	}
}

func TestListFunctionsOfOneFailingOperand(t *testing.T) {
	for _, bad := range failings() {
		for _, f := range functionsOfOne() {
			f.check(t, failure(bad.code), bad.v)
		}
		for _, f := range functionsOfTwo() {
			for _, good := range append(operands(), impl.NumberValue(9), impl.NumberValue(-limit)) {
				f.check(t, failure(bad.code), good, bad.v)
				f.check(t, failure(bad.code), bad.v, good)
			}
		}
	}
}

func TestListFunctionsOfTwoFailingOperands(t *testing.T) {
	for _, first := range failings() {
		for _, second := range failings() {
			for _, f := range functionsOfTwo() {
				f.check(t, failure(first.code), first.v, second.v)
			}
		}
	}
}

func TestElementErrorsKnown(t *testing.T) {
	number := impl.NumberValue
	missing, cycle, invalid := impl.ErrorValue(1), impl.ErrorValue(3), number(limit+1)
	for _, f := range functionsOfTwo() {
		f.check(t, missing, missing, cycle)
		f.check(t, cycle, cycle, missing)
		f.check(t, missing, missing, invalid)
		f.check(t, failure(4), invalid, missing)
		// The operand error comes ahead of ErrorType and ErrorRange.
		f.check(t, missing, number(-1), missing)
		f.check(t, missing, impl.TextValue("a"), missing)
		f.check(t, missing, missing, impl.TextValue("a"))
		f.check(t, missing, tableFrom(), missing)
		f.check(t, failure(4), number(-1), numbers(limit+1))
		f.check(t, failure(4), number(9), upTo(9))
		f.check(t, failure(4), number(0), upTo(9))
		f.check(t, failure(4), number(1), nested(4))
		f.check(t, failure(4), invalid, numbers(1))
		f.check(t, failure(4), number(math.MinInt), numbers(1))
		f.check(t, failure(4), number(math.MaxInt), impl.StreamValue(0, 1))
		// An error or a stream in a list makes the list invalid.
		f.check(t, failure(4), number(0), listOf(missing))
		f.check(t, failure(4), number(0), listOf(number(1), impl.StreamValue(1, 1)))
		f.check(t, failure(4), number(0), impl.ErrorValue(9))
	}
	for _, f := range functionsOfOne() {
		f.check(t, missing, missing)
		f.check(t, failure(4), listOf(missing))
		f.check(t, failure(4), upTo(9))
		f.check(t, failure(4), numbers(1, limit+1))
		f.check(t, failure(4), impl.TextValue(strings.Repeat("x", 21)))
		f.check(t, failure(4), nested(4))
	}
}

// checkParts checks that the first n elements of a list and its others are its elements in order, and all of them.
func checkParts(t *testing.T, n int, v impl.Value) {
	t.Helper()
	taken, others := impl.TakeOf(impl.NumberValue(n), v), impl.SkipOf(impl.NumberValue(n), v)
	if whole := impl.ApplyOperator(impl.OpAdd, taken, others); !reflect.DeepEqual(normal(whole), normal(v)) {
		t.Errorf("the first %d elements of %+v, then the others: %+v", n, v, whole)
	}
	if got := slices.Concat(taken.List, others.List); !reflect.DeepEqual(normal(listOf(got...)), normal(v)) {
		t.Errorf("the first %d elements of %+v, then the others: %+v", n, v, got)
	}
	if got := impl.LengthOf(taken); got.N != min(n, len(v.List)) {
		t.Errorf("the first %d elements of %+v are %d", n, v, got.N)
	}
	checkNumbering(t, n, v)
}

// checkNumbering checks that the elements among the first n ones have their numbers, and element i of the others has the number n+i.
func checkNumbering(t *testing.T, n int, v impl.Value) {
	t.Helper()
	taken, others := impl.TakeOf(impl.NumberValue(n), v), impl.SkipOf(impl.NumberValue(n), v)
	for i := range 12 {
		want := normal(impl.NthOf(impl.NumberValue(i), v))
		if got := normal(impl.NthOf(impl.NumberValue(i), taken)); i < n && taken.Kind != 6 && !reflect.DeepEqual(got, want) {
			t.Errorf("element %d of %+v is %+v, but %+v in the first %d", i, v, want, got, n)
		}
		want = normal(impl.NthOf(impl.NumberValue(n+i), v))
		if got := normal(impl.NthOf(impl.NumberValue(i), others)); !reflect.DeepEqual(got, want) {
			t.Errorf("element %d of %+v is %+v, but %+v without the first %d", n+i, v, want, got, n)
		}
	}
}

func TestFirstElementsFollowedByTheOthers(t *testing.T) {
	lists := slices.Concat(operands(), longLists(), mixedLists())
	for size := range 9 {
		lists = append(lists, upTo(size))
	}
	for _, v := range lists {
		if v.Kind != impl.ValueList {
			continue
		}
		for n := range 9 {
			checkParts(t, n, v)
		}
	}
}

func TestFirstElementsOfStreamsFollowedByOthers(t *testing.T) {
	for _, start := range edgeNumbers() {
		for _, step := range edgeNumbers() {
			v := impl.StreamValue(start, step)
			for m := range 9 {
				taken, others := impl.TakeOf(impl.NumberValue(m), v), impl.SkipOf(impl.NumberValue(m), v)
				if others.Kind == impl.ValueError {
					continue
				}
				for n := range 9 - m {
					got := impl.ApplyOperator(impl.OpAdd, taken, impl.TakeOf(impl.NumberValue(n), others))
					if want := impl.TakeOf(impl.NumberValue(m+n), v); !reflect.DeepEqual(normal(got), normal(want)) {
						t.Errorf("the first %d elements of %+v, then %d: %+v, want %+v", m, v, n, got, want)
					}
				}
			}
		}
	}
	for _, v := range []impl.Value{impl.StreamValue(5, 3), impl.StreamValue(5, -3), impl.StreamValue(0, 0), impl.StreamValue(limit-14, 1), impl.StreamValue(14-limit, -1), impl.StreamValue(limit, -limit/20)} {
		for n := range 9 {
			checkNumbering(t, n, v)
		}
	}
}

func TestSkippingTwice(t *testing.T) {
	for _, v := range slices.Concat(longLists(), mixedLists(), []impl.Value{numbers(), upTo(8), impl.StreamValue(5, 3), impl.StreamValue(5, -3), impl.StreamValue(limit-30, 1)}) {
		for m := range 12 {
			for n := range 12 {
				got := impl.SkipOf(impl.NumberValue(n), impl.SkipOf(impl.NumberValue(m), v))
				skipOf().check(t, got, impl.NumberValue(m+n), v)
			}
		}
	}
}

func TestListFunctionsRandomValues(t *testing.T) {
	random := rand.New(rand.NewSource(6))
	bad := failings()
	draw := func() failing {
		v := randomValue(random, 0)
		switch random.Intn(8) {
		case 0:
			return bad[random.Intn(len(bad))]
		case 1, 2, 3:
			v = impl.NumberValue(random.Intn(12) - 1)
		case 4:
			v = impl.StreamValue(v.N, random.Intn(400000000)-200000000)
		}
		return failing{v, codeOf(v)}
	}
	for range 30000 {
		n, v := draw(), draw()
		for _, f := range everyListFunction() {
			operands, failed := []impl.Value{n.v, v.v}, n.code
			if f.count == 1 {
				operands, failed = operands[1:], v.code
			} else if failed == 0 {
				failed = v.code
			}
			if failed != 0 {
				f.check(t, failure(failed), operands...)
			} else {
				f.checkMeaning(t, operands...)
			}
		}
	}
}

// Promise 48: every function is total and does not modify its arguments.

func TestListFunctionsOfLargeValues(t *testing.T) {
	for _, v := range largeValues() {
		for _, f := range functionsOfOne() {
			f.checkLarge(t, 4, v)
		}
		for _, f := range functionsOfTwo() {
			f.checkLarge(t, 4, impl.NumberValue(1), v)
			f.checkLarge(t, 4, v, numbers(1))
			f.checkLarge(t, 4, v, v)
			f.checkLarge(t, 2, impl.ErrorValue(2), v)
			f.checkLarge(t, 4, v, impl.ErrorValue(2))
		}
	}
}

// checkLarge does not print the operands.
func (f valueFunction) checkLarge(t *testing.T, code int, operands ...impl.Value) {
	t.Helper()
	if got := f.call(operands...); !reflect.DeepEqual(normal(got), failure(code)) {
		t.Errorf("%s of a large value = %+v, want the error %d", f.name, got, code)
	}
}

// A valueCall is such a function with operands.
type valueCall struct {
	f        valueFunction
	operands []impl.Value
}

// spacious returns the same call with operands that have unused capacity.
func (c valueCall) spacious() valueCall { return valueCall{c.f, normalEach(c.operands, spacious)} }

func (c valueCall) wholeOperands() []impl.Value { return normalEach(c.operands, whole) }

func (c valueCall) result() impl.Value { return c.f.call(c.operands...) }

// listCalls are calls of every function for which it has something to do, and failing ones.
func listCalls() []valueCall {
	inner := numbers(1, 2)
	all := slices.Concat(mixedLists(), longLists(), []impl.Value{
		numbers(), numbers(1, 2, 3), impl.TextValue("ab"), impl.StreamValue(5, 3), impl.StreamValue(limit, 1), impl.NumberValue(3),
		tableFrom(impl.Origin{Cell: 1}), fullValue(), impl.ErrorValue(3), nested(3),
		// A list that contains the same memory twice.
		listOf(inner, inner, numbers(3)),
	})
	for _, bad := range failings()[:12] {
		all = append(all, bad.v)
	}
	var calls []valueCall
	for _, v := range all {
		for _, f := range functionsOfOne() {
			calls = append(calls, valueCall{f, []impl.Value{v}})
		}
		for _, n := range []impl.Value{impl.NumberValue(0), impl.NumberValue(1), impl.NumberValue(2), impl.NumberValue(8), impl.NumberValue(9), impl.NumberValue(-1), impl.ErrorValue(5), numbers(1), fullValue(), v} {
			for _, f := range functionsOfTwo() {
				calls = append(calls, valueCall{f, []impl.Value{n, v}})
			}
		}
	}
	return calls
}

// checkKeepsOperands checks that the function does not change its operands, and that its result shares no memory with them.
func (c valueCall) checkKeepsOperands(t *testing.T) {
	t.Helper()
	used := c.spacious()
	want := used.wholeOperands()
	result := used.result()
	if got := used.wholeOperands(); !reflect.DeepEqual(got, want) {
		t.Errorf("%s changed its operands %+v to %+v", used.f.name, want, got)
	}
	if expected := normal(c.result()); !reflect.DeepEqual(normal(result), expected) {
		t.Errorf("%s of %+v = %+v, with spare capacity %+v", used.f.name, c.operands, expected, result)
	}
	spoil(result)
	if got := used.wholeOperands(); !reflect.DeepEqual(got, want) {
		t.Errorf("the result of %s shares memory with its operands %+v", used.f.name, want)
	}
}

// checkIndependent checks that the results of two calls share no memory with the operands, each other or themselves.
func (c valueCall) checkIndependent(t *testing.T) {
	t.Helper()
	used := c.spacious()
	first, second := used.result(), used.result()
	want := normal(first)
	for _, v := range used.operands {
		spoil(v)
	}
	if !reflect.DeepEqual(normal(first), want) || !reflect.DeepEqual(normal(second), want) {
		t.Errorf("the result of %s of %+v changed with its operands", used.f.name, c.operands)
	}
	spoil(second)
	if !reflect.DeepEqual(normal(first), want) {
		t.Errorf("the result of %s of %+v changed with another result", used.f.name, c.operands)
	}
	for i := range spoilers(first) {
		checkOneSpoiled(t, c.result(), i)
	}
}

func TestListFunctionsKeepTheirArguments(t *testing.T) {
	for _, c := range listCalls() {
		c.checkKeepsOperands(t)
	}
}

func TestListResultsAreIndependent(t *testing.T) {
	for _, c := range listCalls() {
		c.checkIndependent(t)
	}
}

// The parts of one list, and its elements, are independent of each other.
func TestPartsAreIndependent(t *testing.T) {
	for _, v := range slices.Concat(mixedLists(), longLists(), []impl.Value{upTo(8), impl.StreamValue(5, 3)}) {
		for n := range 4 {
			number := impl.NumberValue(n)
			parts := []impl.Value{impl.TakeOf(number, v), impl.SkipOf(number, v), impl.NthOf(number, v), impl.TakeOf(impl.NumberValue(8), v), impl.SkipOf(impl.NumberValue(0), v)}
			for i := range parts {
				want := normalEach(parts, normal)
				spoil(parts[i])
				got := normalEach(parts, normal)
				want[i], got[i] = impl.Value{}, impl.Value{}
				if !reflect.DeepEqual(got, want) {
					t.Errorf("part %d of %+v shares memory with another one", i, v)
				}
			}
		}
	}
}
