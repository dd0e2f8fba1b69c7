package tests

import (
	"math"
	"reflect"
	"slices"
	"strings"
	"testing"

	"loop.example/g00510/impl"
)

// Promise 3: equal values are shown equally.

// tableValue returns a table with a row of these cells for each of rows, without origins.
func tableValue(columns []string, rows ...[]int) impl.Value {
	v := impl.Value{Kind: impl.ValueTable, Columns: columns}
	for _, cells := range rows {
		v.Rows = append(v.Rows, impl.Row{Cells: cells})
	}
	return v
}

// tableFrom returns a table with the column a and one row with these origins.
func tableFrom(from ...impl.Origin) impl.Value {
	return impl.Value{Kind: impl.ValueTable, Columns: []string{"a"}, Rows: []impl.Row{{Cells: []int{1}, From: from}}}
}

func numbers(list ...int) impl.Value {
	var elements []impl.Value
	for _, n := range list {
		elements = append(elements, impl.Value{Kind: impl.ValueNumber, N: n})
	}
	return impl.Value{Kind: impl.ValueList, List: elements}
}

func listOf(elements ...impl.Value) impl.Value {
	return impl.Value{Kind: impl.ValueList, List: elements}
}

// nested returns an empty list inside others, with this depth.
func nested(depth int) impl.Value {
	v := listOf()
	for range depth - 1 {
		v = listOf(v)
	}
	return v
}

// normal returns a copy of v in which every empty slice is nil, so that reflect.DeepEqual compares the fields.
func normal(v impl.Value) impl.Value {
	v.List = normalEach(v.List, normal)
	v.Columns = normalEach(v.Columns, func(s string) string { return s })
	v.Rows = normalEach(v.Rows, func(r impl.Row) impl.Row {
		return impl.Row{
			Cells: normalEach(r.Cells, func(n int) int { return n }),
			From:  normalEach(r.From, func(o impl.Origin) impl.Origin { return o }),
		}
	})
	return v
}

func normalEach[T any](list []T, each func(T) T) []T {
	var result []T
	for _, x := range list {
		result = append(result, each(x))
	}
	return result
}

func withoutOrigins(v impl.Value) impl.Value {
	v = normal(v)
	for i := range v.Rows {
		v.Rows[i].From = nil
	}
	for i := range v.List {
		v.List[i] = withoutOrigins(v.List[i])
	}
	return v
}

func TestValueConstants(t *testing.T) {
	got := []int{
		impl.MaxNumber, impl.MaxText, impl.MaxList, impl.MaxDepth, impl.MaxRows, impl.MaxColumns,
		impl.ValueNumber, impl.ValueText, impl.ValueList, impl.ValueStream, impl.ValueTable, impl.ValueError,
		impl.ErrorMissing, impl.ErrorDuplicate, impl.ErrorCycle, impl.ErrorType,
		impl.ErrorRange, impl.ErrorLimit, impl.ErrorColumn, impl.ErrorSyntax,
	}
	want := []int{1000000000, 20, 8, 3, 12, 4, 1, 2, 3, 4, 5, 6, 1, 2, 3, 4, 5, 6, 7, 8}
	if !slices.Equal(got, want) {
		t.Errorf("the constants are %d, want %d", got, want)
	}
}

func TestConstructors(t *testing.T) {
	check := func(name string, got, want impl.Value) {
		t.Helper()
		if !reflect.DeepEqual(normal(got), normal(want)) {
			t.Errorf("%s = %+v, want %+v", name, got, want)
		}
	}
	for _, n := range []int{0, 1, -1, 8, 9, impl.MaxNumber, impl.MaxNumber + 1, -impl.MaxNumber - 1, math.MaxInt, math.MinInt} {
		check("NumberValue", impl.NumberValue(n), impl.Value{Kind: 1, N: n})
		check("ErrorValue", impl.ErrorValue(n), impl.Value{Kind: 6, N: n})
		check("StreamValue", impl.StreamValue(n, 7), impl.Value{Kind: 4, N: n, Step: 7})
		check("StreamValue", impl.StreamValue(7, n), impl.Value{Kind: 4, N: 7, Step: n})
	}
	for _, s := range append(oddStrings(), "a", "a\"b", strings.Repeat("x", 21)) {
		check("TextValue", impl.TextValue(s), impl.Value{Kind: 2, Text: s})
	}
	for _, v := range append(validValues(), invalidValues()...) {
		check("ListValue", impl.ListValue([]impl.Value{v}), impl.Value{Kind: 3, List: []impl.Value{v}})
		check("ListValue", impl.ListValue([]impl.Value{v, {}, v}), impl.Value{Kind: 3, List: []impl.Value{v, {}, v}})
	}
	check("ListValue", impl.ListValue(nil), impl.Value{Kind: 3})
	check("ListValue", impl.ListValue([]impl.Value{}), impl.Value{Kind: 3})
}

func TestIsValidText(t *testing.T) {
	check := func(s string, want bool) {
		t.Helper()
		if got := impl.IsValidText(s); got != want {
			t.Errorf("IsValidText(%q) = %v, want %v", s, got, want)
		}
		if got := impl.IsValidValue(impl.TextValue(s)); got != want {
			t.Errorf("IsValidValue of the text %q = %v, want %v", s, got, want)
		}
	}
	for size := range 60 {
		check(strings.Repeat("x", size), size <= 20)
	}
	for b := range 256 {
		one := string([]byte{byte(b)})
		valid := 32 <= b && b <= 126 && b != '"'
		check(one, valid)
		for i := range 20 {
			check(strings.Repeat("x", i)+one+strings.Repeat("x", 19-i), valid)
		}
		check(strings.Repeat(one, 20), valid)
		check(strings.Repeat(one, 21), false)
	}
	check("", true)
	check(" !~'\\`", true)
	check("let x = 1 in (x, y)", true)
	check("\u00e9", false)
	check("a\u20acb", false)
	check(strings.Repeat("x", 20)+"\"", false)
}

// validValues are valid values of all kinds that differ from each other.
func validValues() []impl.Value {
	return []impl.Value{
		impl.NumberValue(0), impl.NumberValue(1), impl.NumberValue(-1), impl.NumberValue(8),
		impl.NumberValue(impl.MaxNumber), impl.NumberValue(-impl.MaxNumber), impl.NumberValue(impl.MaxNumber - 1),
		impl.TextValue(""), impl.TextValue("a"), impl.TextValue("ab"), impl.TextValue(" "), impl.TextValue("~"), impl.TextValue("sum"),
		impl.TextValue(strings.Repeat("x", impl.MaxText)),
		numbers(), numbers(0), numbers(1), numbers(1, 2), numbers(2, 1), numbers(1, 1), numbers(1, 2, 3, 4, 5, 6, 7, 8),
		listOf(impl.TextValue("")), listOf(impl.TextValue("a")), listOf(impl.NumberValue(1), impl.TextValue("1")),
		listOf(numbers()), listOf(numbers(1)), listOf(numbers(1), numbers(2)), listOf(numbers(1, 2)), listOf(numbers(), numbers()),
		listOf(impl.NumberValue(1), numbers(2)), listOf(numbers(1), impl.NumberValue(2)), nested(3),
		listOf(numbers(1, 2, 3, 4, 5, 6, 7, 8), numbers(1, 2, 3, 4, 5, 6, 7, 8)), listOf(numbers(), nested(2), impl.TextValue("z")),
		impl.StreamValue(0, 0), impl.StreamValue(1, 0), impl.StreamValue(0, 1), impl.StreamValue(1, -1), impl.StreamValue(-1, 1),
		impl.StreamValue(impl.MaxNumber, -impl.MaxNumber), impl.StreamValue(-impl.MaxNumber, impl.MaxNumber),
		tableValue([]string{"a"}), tableValue([]string{"b"}), tableValue([]string{"a", "b"}), tableValue([]string{"b", "a"}),
		tableValue([]string{"a", "b", "c", "d"}, []int{1, 2, 3, 4}), tableValue([]string{"abcdefgh", "a1234567"}),
		tableValue([]string{"a"}, []int{1}), tableValue([]string{"a"}, []int{2}), tableValue([]string{"a"}, []int{1}, []int{2}),
		tableValue([]string{"a"}, []int{2}, []int{1}), tableValue([]string{"a"}, []int{1}, []int{1}),
		tableValue([]string{"a", "b"}, []int{impl.MaxNumber, -impl.MaxNumber}, []int{0, 0}),
		tableFrom(impl.Origin{}), tableFrom(impl.Origin{Cell: 1}), tableFrom(impl.Origin{Row: 1}), tableFrom(impl.Origin{Cell: 1, Row: 1}),
		tableFrom(impl.Origin{Cell: 1, Row: 0}, impl.Origin{Cell: 1, Row: 1}), tableFrom(impl.Origin{Cell: 1, Row: 9}, impl.Origin{Cell: 2, Row: 0}),
		tableFrom(impl.Origin{Cell: math.MaxInt, Row: math.MaxInt}),
		impl.ErrorValue(1), impl.ErrorValue(2), impl.ErrorValue(3), impl.ErrorValue(4),
		impl.ErrorValue(5), impl.ErrorValue(6), impl.ErrorValue(7), impl.ErrorValue(8),
	}
}

// invalidValues are invalid values that differ from each other.
func invalidValues() []impl.Value {
	all := []impl.Value{
		{}, {Kind: -1}, {Kind: 7}, {Kind: 7, N: 1}, {N: 1}, {Text: "a"}, {Kind: math.MaxInt}, {Kind: math.MinInt},
		impl.NumberValue(impl.MaxNumber + 1), impl.NumberValue(-impl.MaxNumber - 1), impl.NumberValue(math.MinInt),
		impl.TextValue("\""), impl.TextValue("\x1f"), impl.TextValue("\x7f"), impl.TextValue(strings.Repeat("x", impl.MaxText+1)),
		numbers(1, 2, 3, 4, 5, 6, 7, 8, 9), numbers(impl.MaxNumber + 1), listOf(impl.Value{}), nested(4), listOf(listOf(numbers(1))),
		listOf(impl.StreamValue(1, 1)), listOf(tableFrom()), listOf(tableFrom(impl.Origin{Cell: 1})), listOf(tableFrom(impl.Origin{Cell: 2})),
		listOf(impl.ErrorValue(1)), listOf(listOf(tableFrom())), listOf(listOf(tableFrom(impl.Origin{Cell: 1}))),
		impl.StreamValue(impl.MaxNumber+1, 0), impl.StreamValue(0, -impl.MaxNumber-1),
		tableValue(nil), tableValue(nil, nil), tableValue([]string{"a", "a"}), tableValue([]string{"sum"}), tableValue([]string{"a"}, nil),
		tableFrom(impl.Origin{Cell: -1}), tableFrom(impl.Origin{Cell: 1}, impl.Origin{Cell: 1}), tableFrom(impl.Origin{Cell: 2}, impl.Origin{Cell: 1}),
		impl.ErrorValue(0), impl.ErrorValue(9), impl.ErrorValue(-1), impl.ErrorValue(math.MaxInt),
	}
	for _, s := range strays() {
		v := impl.Value{Kind: impl.ValueNumber, N: 1}
		if s.field != "N" {
			s.set(&v)
			all = append(all, v)
		}
	}
	return all
}

func TestIsValidValueSamples(t *testing.T) {
	for _, v := range validValues() {
		if !impl.IsValidValue(v) {
			t.Errorf("IsValidValue(%+v) = false", v)
		}
	}
	for _, v := range invalidValues() {
		if impl.IsValidValue(v) {
			t.Errorf("IsValidValue(%+v) = true", v)
		}
	}
}

// A stray sets a field to something else than zero.
type stray struct {
	field string
	set   func(*impl.Value)
}

func strays() []stray {
	return []stray{
		{"N", func(v *impl.Value) { v.N = 1 }},
		{"N", func(v *impl.Value) { v.N = -1 }},
		{"Step", func(v *impl.Value) { v.Step = 1 }},
		{"Step", func(v *impl.Value) { v.Step = math.MinInt }},
		{"Text", func(v *impl.Value) { v.Text = "a" }},
		{"Text", func(v *impl.Value) { v.Text = "\x00" }},
		{"List", func(v *impl.Value) { v.List = []impl.Value{{Kind: 1}} }},
		{"List", func(v *impl.Value) { v.List = []impl.Value{{}} }},
		{"Columns", func(v *impl.Value) { v.Columns = []string{"a"} }},
		{"Columns", func(v *impl.Value) { v.Columns = []string{""} }},
		{"Rows", func(v *impl.Value) { v.Rows = []impl.Row{{Cells: []int{1}}} }},
		{"Rows", func(v *impl.Value) { v.Rows = []impl.Row{{}} }},
	}
}

// kindCase is a valid value that stays valid with the fields of its kind alone.
type kindCase struct {
	v    impl.Value
	uses []string
}

func kindCases() []kindCase {
	return []kindCase{
		{impl.NumberValue(0), []string{"N"}},
		{impl.NumberValue(5), []string{"N"}},
		{impl.TextValue(""), []string{"Text"}},
		{impl.TextValue("ab"), []string{"Text"}},
		{numbers(), []string{"List"}},
		{numbers(1, 2), []string{"List"}},
		{impl.StreamValue(0, 0), []string{"N", "Step"}},
		{impl.StreamValue(3, -4), []string{"N", "Step"}},
		{tableValue([]string{"a"}), []string{"Columns", "Rows"}},
		{tableFrom(impl.Origin{Cell: 1, Row: 2}), []string{"Columns", "Rows"}},
		{impl.ErrorValue(1), []string{"N"}},
		{impl.ErrorValue(8), []string{"N"}},
	}
}

func TestIsValidValueUnusedFields(t *testing.T) {
	for _, c := range kindCases() {
		if !impl.IsValidValue(c.v) {
			t.Errorf("IsValidValue(%+v) = false", c.v)
		}
		for _, s := range strays() {
			v := c.v
			s.set(&v)
			if slices.Contains(c.uses, s.field) {
				continue
			}
			if impl.IsValidValue(v) {
				t.Errorf("IsValidValue(%+v) = true", v)
			}
			if impl.IsValidValue(listOf(impl.NumberValue(1), v)) || impl.IsValidValue(listOf(listOf(v))) {
				t.Errorf("a list that contains %+v is valid", v)
			}
		}
	}
}

func TestIsValidValueEmptySlices(t *testing.T) {
	for _, c := range kindCases() {
		v := c.v
		if len(v.List) == 0 {
			v.List = []impl.Value{}
		}
		if len(v.Columns) == 0 {
			v.Columns = make([]string, 0, 3)
		}
		if len(v.Rows) == 0 {
			v.Rows = []impl.Row{}
		}
		if !impl.IsValidValue(v) {
			t.Errorf("IsValidValue(%+v) = false for empty slices", v)
		}
		if !impl.EqualValue(v, c.v) || !impl.EqualValue(c.v, v) || !impl.EqualShown(v, c.v) || !impl.EqualShown(c.v, v) {
			t.Errorf("%+v with nil and with empty slices differ", v)
		}
		if impl.SizeOf(v) != impl.SizeOf(c.v) || impl.DepthOf(v) != impl.DepthOf(c.v) {
			t.Errorf("%+v with nil and with empty slices is measured differently", v)
		}
	}
}

func TestIsValidValueKinds(t *testing.T) {
	for _, kind := range []int{-7, -1, 0, 1, 2, 3, 4, 5, 6, 7, 8, 256 + 1, 1<<32 + 1, math.MaxInt, math.MinInt} {
		empty := kind == impl.ValueNumber || kind == impl.ValueText || kind == impl.ValueList || kind == impl.ValueStream
		if got := impl.IsValidValue(impl.Value{Kind: kind}); got != empty {
			t.Errorf("IsValidValue of kind %d without contents = %v", kind, got)
		}
		one := kind == impl.ValueNumber || kind == impl.ValueStream || kind == impl.ValueError
		if got := impl.IsValidValue(impl.Value{Kind: kind, N: 1}); got != one {
			t.Errorf("IsValidValue of kind %d with N 1 = %v", kind, got)
		}
		element := kind == impl.ValueNumber || kind == impl.ValueText || kind == impl.ValueList
		if got := impl.IsValidValue(listOf(impl.Value{Kind: kind})); got != element {
			t.Errorf("IsValidValue of a list of kind %d = %v", kind, got)
		}
	}
}

func TestIsValidValueNumbers(t *testing.T) {
	const limit = 1000000000
	for n, want := range map[int]bool{
		0: true, 1: true, -1: true, limit - 1: true, limit: true, limit + 1: false, 1 - limit: true, -limit: true, -limit - 1: false,
		1 << 32: false, 1<<32 + 1: false, math.MaxInt: false, math.MinInt: false, math.MinInt + 1: false,
	} {
		for _, v := range []impl.Value{
			impl.NumberValue(n), impl.StreamValue(n, 0), impl.StreamValue(0, n), impl.StreamValue(n, n),
			numbers(n), numbers(0, n), numbers(n, 0), listOf(numbers(n)), listOf(numbers(0), numbers(0, n)),
			tableValue([]string{"a"}, []int{n}), tableValue([]string{"a", "b"}, []int{0, n}, []int{0, 0}),
			tableValue([]string{"a", "b"}, []int{0, 0}, []int{n, 0}),
		} {
			if got := impl.IsValidValue(v); got != want {
				t.Errorf("IsValidValue(%+v) = %v, want %v", v, got, want)
			}
		}
	}
	for n := -20; n <= 20; n++ {
		if got, want := impl.IsValidValue(impl.ErrorValue(n)), 1 <= n && n <= 8; got != want {
			t.Errorf("IsValidValue of the error %d = %v", n, got)
		}
	}
}

func TestIsValidValueLists(t *testing.T) {
	for size := range 30 {
		want := size <= 8
		for _, element := range []impl.Value{impl.NumberValue(1), impl.TextValue("a"), numbers(), numbers(1, 2)} {
			full := listOf(slices.Repeat([]impl.Value{element}, size)...)
			if got := impl.IsValidValue(full); got != want {
				t.Errorf("IsValidValue of a list of %d elements = %v", size, got)
			}
		}
		inner := numbers(make([]int, size)...)
		if got := impl.IsValidValue(listOf(inner)); got != want {
			t.Errorf("IsValidValue of a list of %d elements in a list = %v", size, got)
		}
		if got := impl.IsValidValue(listOf(numbers(), impl.TextValue(""), inner)); got != want {
			t.Errorf("IsValidValue of a list with a third element of %d elements = %v", size, got)
		}
	}
	// One invalid element is enough, wherever it is.
	for _, bad := range invalidValues() {
		for _, v := range []impl.Value{listOf(bad), listOf(bad, impl.NumberValue(1)), listOf(impl.NumberValue(1), bad), listOf(listOf(bad))} {
			if impl.IsValidValue(v) {
				t.Errorf("IsValidValue(%+v) = true", v)
			}
		}
	}
	for _, v := range validValues() {
		want := (v.Kind == impl.ValueNumber || v.Kind == impl.ValueText || v.Kind == impl.ValueList) && impl.DepthOf(v) < 3
		if got := impl.IsValidValue(listOf(impl.NumberValue(1), v)); got != want {
			t.Errorf("IsValidValue of a list of %+v = %v", v, got)
		}
	}
}

func TestIsValidValueDepth(t *testing.T) {
	for depth := 1; depth <= 12; depth++ {
		v := nested(depth)
		want := depth <= 3
		if got := impl.IsValidValue(v); got != want {
			t.Errorf("IsValidValue of a list of depth %d = %v", depth, got)
		}
		if got := impl.IsValidValue(listOf(impl.NumberValue(1), numbers(2), v)); got != (depth <= 2) {
			t.Errorf("IsValidValue of a list with an element of depth %d = %v", depth, got)
		}
	}
	if !impl.IsValidValue(listOf(numbers(1))) || impl.IsValidValue(listOf(listOf(numbers(1)))) || impl.IsValidValue(listOf(listOf(numbers(1), numbers()))) {
		t.Error("a number in lists counts as one level")
	}
}

// A list that contains itself is deeper than any limit; only validity and comparing are defined for it.
func TestListThatContainsItself(t *testing.T) {
	list := make([]impl.Value, 2)
	list[0] = impl.NumberValue(1)
	list[1] = impl.Value{Kind: impl.ValueList, List: list}
	if impl.IsValidValue(list[1]) || impl.IsValidValue(listOf(list...)) {
		t.Error("a list that contains itself is valid")
	}
	stray := impl.NumberValue(1)
	stray.List = list
	if impl.IsValidValue(stray) {
		t.Error("a number with a list that contains itself is valid")
	}
	if impl.EqualValue(list[1], listOf(impl.NumberValue(1), numbers(1, 2))) || impl.EqualShown(nested(5), list[1]) {
		t.Error("a list that contains itself equals another one")
	}
}

func TestIsValidValueColumns(t *testing.T) {
	check := func(columns []string, want bool) {
		t.Helper()
		row := make([]int, len(columns))
		for _, v := range []impl.Value{tableValue(columns), tableValue(columns, row), tableValue(columns, row, row)} {
			if got := impl.IsValidValue(v); got != want {
				t.Errorf("IsValidValue of the columns %q with %d rows = %v", columns, len(v.Rows), got)
			}
		}
	}
	names := []string{"a", "b", "c", "d", "e", "f"}
	for size := range names {
		check(names[:size], 1 <= size && size <= 4)
	}
	check(nil, false)
	check([]string{"a", "a"}, false)
	check([]string{"a", "b", "a"}, false)
	check([]string{"a", "b", "c", "b"}, false)
	check([]string{"b", "a"}, true)
	check([]string{"abcdefgh", "abcdefg", "abcdefgi", "z9"}, true)
	check([]string{"abcdefghi"}, false)
	for _, word := range everyReservedWord() {
		check([]string{word}, false)
		check([]string{"a", word}, false)
		check([]string{word, "a", "b"}, false)
	}
	for _, s := range oddStrings() {
		check([]string{s}, false)
		check([]string{"a", "b", s}, false)
	}
}

func TestIsValidValueRows(t *testing.T) {
	for size := range 30 {
		rows := slices.Repeat([][]int{{1, 2}}, size)
		if got := impl.IsValidValue(tableValue([]string{"a", "b"}, rows...)); got != (size <= 12) {
			t.Errorf("IsValidValue of a table of %d rows = %v", size, got)
		}
	}
	for columns := 1; columns <= 4; columns++ {
		names := []string{"a", "b", "c", "d"}[:columns]
		good := make([]int, columns)
		for cells := range 8 {
			row := make([]int, cells)
			want := cells == columns
			for _, v := range []impl.Value{tableValue(names, row), tableValue(names, good, row), tableValue(names, row, good), tableValue(names, good, row, good)} {
				if got := impl.IsValidValue(v); got != want {
					t.Errorf("IsValidValue of %d columns with a row of %d cells = %v", columns, cells, got)
				}
			}
		}
		if impl.IsValidValue(tableValue(names, nil)) {
			t.Errorf("IsValidValue of %d columns with a row of nil = true", columns)
		}
	}
}

func TestIsValidValueOrigins(t *testing.T) {
	check := func(want bool, from ...impl.Origin) {
		t.Helper()
		second := tableValue([]string{"a"}, []int{1}, []int{2})
		second.Rows[1].From = from
		for _, v := range []impl.Value{tableFrom(from...), second} {
			if got := impl.IsValidValue(v); got != want {
				t.Errorf("IsValidValue of the origins %v = %v, want %v", from, got, want)
			}
		}
	}
	numbers := []int{-1, 0, 1, 2}
	var all []impl.Origin
	for _, cell := range numbers {
		for _, row := range numbers {
			all = append(all, impl.Origin{Cell: cell, Row: row})
		}
	}
	proper := func(o impl.Origin) bool { return o.Cell >= 0 && o.Row >= 0 }
	precedes := func(a, b impl.Origin) bool { return a.Cell < b.Cell || a.Cell == b.Cell && a.Row < b.Row }
	check(true)
	for _, a := range all {
		check(proper(a), a)
		for _, b := range all {
			both := proper(a) && proper(b) && precedes(a, b)
			check(both, a, b)
			for _, c := range all {
				check(both && proper(c) && precedes(b, c), a, b, c)
			}
		}
	}
	check(true, impl.Origin{}, impl.Origin{Row: math.MaxInt}, impl.Origin{Cell: math.MaxInt}, impl.Origin{Cell: math.MaxInt, Row: math.MaxInt})
	check(false, impl.Origin{Cell: math.MinInt})
	check(false, impl.Origin{Row: math.MinInt})
	var many []impl.Origin
	for i := range 1000 {
		many = append(many, impl.Origin{Cell: i / 10, Row: i % 10})
	}
	check(true, many...)
	slices.Reverse(many)
	check(false, many...)
}

func TestDepthOf(t *testing.T) {
	for _, c := range []struct {
		v    impl.Value
		want int
	}{
		{impl.Value{}, 1},
		{impl.NumberValue(5), 1},
		{impl.TextValue("ab"), 1},
		{impl.StreamValue(1, 1), 1},
		{impl.ErrorValue(1), 1},
		{tableFrom(impl.Origin{Cell: 1}), 1},
		{numbers(), 1},
		{numbers(1), 2},
		{numbers(1, 2, 3), 2},
		{listOf(numbers()), 2},
		{listOf(numbers(1)), 3},
		{listOf(numbers(1), impl.NumberValue(2)), 3},
		{listOf(impl.NumberValue(2), numbers(1)), 3},
		{listOf(numbers(), numbers(1), numbers()), 3},
		{listOf(nested(4), nested(7), nested(2)), 8},
		{listOf(impl.StreamValue(1, 1), tableFrom(), impl.ErrorValue(9), impl.Value{}), 2},
		{impl.Value{Kind: impl.ValueNumber, List: []impl.Value{{}}}, 2},
		{impl.Value{Kind: -7, List: []impl.Value{{Kind: 99, List: []impl.Value{{}}}}}, 3},
	} {
		if got := impl.DepthOf(c.v); got != c.want {
			t.Errorf("DepthOf(%+v) = %d, want %d", c.v, got, c.want)
		}
	}
	for depth := 1; depth <= 100; depth++ {
		if got := impl.DepthOf(nested(depth)); got != depth {
			t.Errorf("DepthOf of a list of depth %d = %d", depth, got)
		}
	}
}

func TestSizeOf(t *testing.T) {
	for _, c := range []struct {
		v    impl.Value
		want int
	}{
		{impl.Value{}, 1},
		{impl.NumberValue(1000), 1},
		{impl.ErrorValue(8), 1},
		{impl.StreamValue(10, -20), 1},
		{impl.TextValue(""), 1},
		{impl.TextValue("abc"), 4},
		{impl.TextValue("\u20ac"), 4},
		{impl.TextValue(strings.Repeat("x", 1000)), 1001},
		{numbers(), 1},
		{numbers(1, 2, 3), 4},
		{listOf(impl.NumberValue(1), impl.TextValue("ab")), 5},
		{listOf(numbers(1), numbers(), impl.TextValue("abc")), 8},
		{tableValue([]string{"a"}), 2},
		{tableValue([]string{"a", "abcdefgh"}), 3},
		{tableValue([]string{"a"}, []int{7}), 3},
		{tableValue([]string{"a"}, nil), 2},
		{tableFrom(impl.Origin{Cell: 1}), 4},
		{tableFrom(impl.Origin{Cell: 1}, impl.Origin{Cell: 2}), 5},
		{tableValue([]string{"a", "b", "c"}, []int{1, 2, 3}, []int{4, 5, 6}), 10},
		{listOf(tableFrom(impl.Origin{Cell: 1}), impl.Value{}), 6},
		{impl.Value{Kind: -7, N: 5, Step: 6, Text: "ab", List: []impl.Value{{Text: "c"}}, Columns: []string{"", "x"},
			Rows: []impl.Row{{From: []impl.Origin{{}, {}}}, {Cells: []int{1}}}}, 10},
	} {
		if got := impl.SizeOf(c.v); got != c.want {
			t.Errorf("SizeOf(%+v) = %d, want %d", c.v, got, c.want)
		}
		if got := impl.SizeOf(listOf(c.v, c.v)); got != 1+2*c.want {
			t.Errorf("SizeOf of a list of two %+v = %d, want %d", c.v, got, 1+2*c.want)
		}
	}
}

func checkEqual(t *testing.T, a, b impl.Value) {
	t.Helper()
	equal, shown := impl.EqualValue(a, b), impl.EqualShown(a, b)
	if want := reflect.DeepEqual(normal(a), normal(b)); equal != want {
		t.Errorf("EqualValue(%+v, %+v) = %v", a, b, equal)
	}
	if want := reflect.DeepEqual(withoutOrigins(a), withoutOrigins(b)); shown != want {
		t.Errorf("EqualShown(%+v, %+v) = %v", a, b, shown)
	}
	if equal && !shown {
		t.Errorf("%+v and %+v are equal, but not shown equally", a, b)
	}
}

func TestEqualAllPairs(t *testing.T) {
	all := append(validValues(), invalidValues()...)
	for i, a := range all {
		for j, b := range all {
			checkEqual(t, a, b)
			if impl.EqualValue(a, b) != (i == j) {
				t.Errorf("EqualValue(%+v, %+v) = %v", a, b, i != j)
			}
			checkEqual(t, listOf(a), listOf(b))
			checkEqual(t, listOf(impl.NumberValue(1), listOf(a, a)), listOf(impl.NumberValue(1), listOf(a, b)))
		}
	}
}

// fullValue has something else than zero in all fields, two elements in every slice.
func fullValue() impl.Value {
	row := func(n int) impl.Row {
		return impl.Row{Cells: []int{n, n + 1}, From: []impl.Origin{{Cell: n, Row: n + 1}, {Cell: n + 2, Row: n + 3}}}
	}
	inner := impl.Value{Kind: 5, N: 1, Step: 2, Text: "t", Columns: []string{"a", "b"}, Rows: []impl.Row{row(10), row(20)}}
	middle := inner
	middle.List = []impl.Value{inner, inner}
	outer := inner
	outer.List = []impl.Value{middle, middle}
	return outer
}

// change is a change of one thing in a value; shown tells whether more than an origin changes.
type change struct {
	name  string
	shown bool
	apply func(*impl.Value)
}

func changes() []change {
	return []change{
		{"Kind", true, func(v *impl.Value) { v.Kind = 3 }},
		{"N", true, func(v *impl.Value) { v.N = 9 }},
		{"Step", true, func(v *impl.Value) { v.Step = 9 }},
		{"Text", true, func(v *impl.Value) { v.Text = "u" }},
		{"a longer Text", true, func(v *impl.Value) { v.Text += "t" }},
		{"the first column", true, func(v *impl.Value) { v.Columns[0] = "c" }},
		{"the last column", true, func(v *impl.Value) { v.Columns[1] = "c" }},
		{"the order of columns", true, func(v *impl.Value) { slices.Reverse(v.Columns) }},
		{"a column less", true, func(v *impl.Value) { v.Columns = v.Columns[:1] }},
		{"no columns", true, func(v *impl.Value) { v.Columns = nil }},
		{"a column more", true, func(v *impl.Value) { v.Columns = append(v.Columns, "c") }},
		{"a cell of the first row", true, func(v *impl.Value) { v.Rows[0].Cells[1] = 0 }},
		{"a cell of the last row", true, func(v *impl.Value) { v.Rows[1].Cells[0] = 0 }},
		{"a cell less", true, func(v *impl.Value) { v.Rows[1].Cells = v.Rows[1].Cells[:1] }},
		{"a cell more", true, func(v *impl.Value) { v.Rows[0].Cells = append(v.Rows[0].Cells, 0) }},
		{"the order of rows", true, func(v *impl.Value) { slices.Reverse(v.Rows) }},
		{"a row less", true, func(v *impl.Value) { v.Rows = v.Rows[:1] }},
		{"no rows", true, func(v *impl.Value) { v.Rows = nil }},
		{"a row more", true, func(v *impl.Value) { v.Rows = append(v.Rows, impl.Row{}) }},
		{"the cell of an origin", false, func(v *impl.Value) { v.Rows[0].From[0].Cell = 9 }},
		{"the row of an origin", false, func(v *impl.Value) { v.Rows[0].From[1].Row = 9 }},
		{"an origin of the last row", false, func(v *impl.Value) { v.Rows[1].From[1].Cell = 99 }},
		{"the row of an origin of the last row", false, func(v *impl.Value) { v.Rows[1].From[0].Row = 99 }},
		{"the order of origins", false, func(v *impl.Value) { slices.Reverse(v.Rows[1].From) }},
		{"an origin less", false, func(v *impl.Value) { v.Rows[0].From = v.Rows[0].From[:1] }},
		{"no origins", false, func(v *impl.Value) { v.Rows[1].From = nil }},
		{"an origin more", false, func(v *impl.Value) { v.Rows[1].From = append(v.Rows[1].From, impl.Origin{Cell: 99}) }},
	}
}

// places are the values within a fullValue.
func places() []func(*impl.Value) *impl.Value {
	all := []func(*impl.Value) *impl.Value{func(v *impl.Value) *impl.Value { return v }}
	for i := range 2 {
		all = append(all, func(v *impl.Value) *impl.Value { return &v.List[i] })
		for j := range 2 {
			all = append(all, func(v *impl.Value) *impl.Value { return &v.List[i].List[j] })
		}
	}
	return all
}

func TestEqualOneDifference(t *testing.T) {
	for place, at := range places() {
		for _, c := range changes() {
			a, b := normal(fullValue()), normal(fullValue())
			if !impl.EqualValue(a, b) || !impl.EqualShown(a, b) {
				t.Fatalf("%+v and its copy differ", a)
			}
			c.apply(at(&b))
			for _, pair := range [][2]impl.Value{{a, b}, {b, a}} {
				if impl.EqualValue(pair[0], pair[1]) {
					t.Errorf("place %d: EqualValue ignores %s", place, c.name)
				}
				if got := impl.EqualShown(pair[0], pair[1]); got == c.shown {
					t.Errorf("place %d: EqualShown = %v with a change of %s", place, got, c.name)
				}
			}
		}
		for _, list := range [][]impl.Value{nil, {}, {{}}, {{}, {}}, {{}, {}, {}}} {
			a, b := normal(fullValue()), normal(fullValue())
			at(&b).List = list
			checkEqual(t, a, b)
			checkEqual(t, b, a)
		}
	}
}

// The elements of nested lists are compared with their counterparts only.
func TestEqualNestedLists(t *testing.T) {
	a, b := numbers(1), numbers(2)
	for _, pair := range [][2]impl.Value{
		{listOf(a, b), listOf(b, a)},
		{listOf(a, numbers()), listOf(numbers(), a)},
		{listOf(numbers(1, 2), numbers(3)), listOf(numbers(1), numbers(2, 3))},
		{listOf(numbers(1, 2), numbers()), listOf(numbers(1), numbers(2))},
		{listOf(listOf(a), b), listOf(a, listOf(b))},
		{listOf(listOf(), listOf(listOf())), listOf(listOf(listOf()), listOf())},
		{numbers(1), listOf(numbers(1))},
	} {
		if impl.EqualValue(pair[0], pair[1]) || impl.EqualShown(pair[0], pair[1]) || impl.EqualShown(pair[1], pair[0]) {
			t.Errorf("%+v equals %+v", pair[0], pair[1])
		}
		checkEqual(t, pair[0], pair[0])
	}
}

// Promise 48: every function is total and does not modify its arguments.

func TestValueFunctionsOfLargeValues(t *testing.T) {
	const depth = 300000
	deep, other := nested(depth), nested(depth+1)
	if impl.DepthOf(deep) != depth || impl.SizeOf(deep) != depth || impl.IsValidValue(deep) {
		t.Error("the measures of a deep list")
	}
	if !impl.EqualValue(deep, nested(depth)) || impl.EqualShown(deep, other) {
		t.Error("comparing deep lists")
	}
	if impl.DepthOf(impl.ListValue([]impl.Value{deep})) != depth+1 {
		t.Error("ListValue of a deep list")
	}
	const width = 300000
	wide := numbers(make([]int, width)...)
	if impl.DepthOf(wide) != 2 || impl.SizeOf(wide) != width+1 || impl.IsValidValue(wide) || impl.EqualValue(wide, numbers(make([]int, width-1)...)) {
		t.Error("the measures of a long list")
	}
	if !impl.EqualValue(impl.ListValue(wide.List), wide) {
		t.Error("ListValue of a long list")
	}
}

// spacious returns a copy of v every slice of which has unused capacity with contents.
func spacious(v impl.Value) impl.Value {
	v.List = append(normalEach(v.List, spacious), impl.NumberValue(77), impl.TextValue("spare"))[:len(v.List)]
	v.Columns = append(slices.Clone(v.Columns), "spare", "b")[:len(v.Columns)]
	v.Rows = append(normalEach(v.Rows, func(r impl.Row) impl.Row {
		return impl.Row{
			Cells: append(slices.Clone(r.Cells), 77, 78)[:len(r.Cells)],
			From:  append(slices.Clone(r.From), impl.Origin{Cell: 77}, impl.Origin{})[:len(r.From)],
		}
	}), impl.Row{Cells: []int{77}})[:len(v.Rows)]
	return v
}

// whole returns a copy of v every slice of which is extended by its unused capacity.
func whole(v impl.Value) impl.Value {
	v.List = normalEach(v.List[:cap(v.List)], whole)
	v.Columns = slices.Clone(v.Columns[:cap(v.Columns)])
	v.Rows = normalEach(v.Rows[:cap(v.Rows)], func(r impl.Row) impl.Row {
		return impl.Row{Cells: slices.Clone(r.Cells[:cap(r.Cells)]), From: slices.Clone(r.From[:cap(r.From)])}
	})
	return v
}

// spoil overwrites everything that v refers to, with the unused capacity.
func spoil(v impl.Value) {
	for _, element := range v.List[:cap(v.List)] {
		spoil(element)
	}
	for _, r := range v.Rows[:cap(v.Rows)] {
		clear(r.Cells[:cap(r.Cells)])
		clear(r.From[:cap(r.From)])
	}
	clear(v.List[:cap(v.List)])
	clear(v.Columns[:cap(v.Columns)])
	clear(v.Rows[:cap(v.Rows)])
}

func TestValueFunctionsKeepTheirArguments(t *testing.T) {
	for _, sample := range append(append(validValues(), invalidValues()...), fullValue()) {
		a, b := spacious(sample), spacious(sample)
		wantA, wantB := whole(a), whole(b)
		impl.IsValidValue(a)
		impl.DepthOf(a)
		impl.SizeOf(a)
		impl.EqualValue(a, b)
		impl.EqualShown(a, b)
		spoil(impl.ListValue(a.List))
		spoil(impl.ListValue([]impl.Value{a, b}))
		if !reflect.DeepEqual(whole(a), wantA) || !reflect.DeepEqual(whole(b), wantB) {
			t.Errorf("the argument %+v became %+v", wantA, whole(a))
		}
	}
}

func TestListValueIsIndependent(t *testing.T) {
	for _, sample := range append(append(validValues(), invalidValues()...), fullValue()) {
		a := spacious(sample)
		// The same element twice: the result shall not share memory with itself either.
		list := []impl.Value{a, listOf(a), a}
		want := normal(listOf(list...))
		first, second := impl.ListValue(list), impl.ListValue(list)
		spoil(listOf(list...))
		if !reflect.DeepEqual(normal(first), want) || !reflect.DeepEqual(normal(second), want) {
			t.Fatalf("ListValue of %+v changed with its argument: %+v", want, first)
		}
		spoil(second)
		if !reflect.DeepEqual(normal(first), want) {
			t.Errorf("ListValue of %+v changed with another result: %+v", want, first)
		}
		spoil(first.List[0])
		if !reflect.DeepEqual(normal(first.List[1]), want.List[1]) || !reflect.DeepEqual(normal(first.List[2]), want.List[2]) {
			t.Errorf("ListValue of %+v shares memory with itself", want)
		}
		spoil(first.List[1])
		if !reflect.DeepEqual(normal(first.List[2]), want.List[2]) {
			t.Errorf("ListValue of %+v shares memory with itself", want)
		}
	}
}
