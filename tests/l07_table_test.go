package tests

import (
	"maps"
	"math"
	"math/rand"
	"reflect"
	"slices"
	"strconv"
	"strings"
	"testing"

	"loop.example/g00510/impl"
)

// Promise 7: operations on tables return valid values, and selected rows are unchanged.

// grid returns the table that is written as its columns and its rows, separated by "; ", with the cells and then the
// origins of each row: "a b; 1 2 @1.0 @3.5" has the columns a and b and one row with two origins.
func grid(s string) impl.Value {
	parts := strings.Split(s, "; ")
	v := impl.Value{Kind: impl.ValueTable, Columns: strings.Split(parts[0], " ")}
	for _, part := range parts[1:] {
		var r impl.Row
		for _, word := range strings.Split(part, " ") {
			if origin, ok := strings.CutPrefix(word, "@"); ok {
				cell, row, _ := strings.Cut(origin, ".")
				r.From = append(r.From, impl.Origin{Cell: numberIn(cell), Row: numberIn(row)})
			} else {
				r.Cells = append(r.Cells, numberIn(word))
			}
		}
		v.Rows = append(v.Rows, r)
	}
	return v
}

// numberIn returns the number that a test contains as a word.
func numberIn(word string) int {
	n, err := strconv.Atoi(word)
	if err != nil {
		panic(err)
	}
	return n
}

// counted returns a table with these columns and this number of rows, row i with the origin {cell, i} and with cells
// that differ from those of other rows.
func counted(columns string, cell, rows int) impl.Value {
	v := grid(columns)
	for i := range rows {
		r := impl.Row{From: []impl.Origin{{Cell: cell, Row: i}}}
		for j := range v.Columns {
			r.Cells = append(r.Cells, 10*(i+1)+j)
		}
		v.Rows = append(v.Rows, r)
	}
	return v
}

func ofThree(f func(a, b, c impl.Value) impl.Value) func(...impl.Value) impl.Value {
	return func(operands ...impl.Value) impl.Value { return f(operands[0], operands[1], operands[2]) }
}

func ofFour(f func(a, b, c, d impl.Value) impl.Value) func(...impl.Value) impl.Value {
	return func(operands ...impl.Value) impl.Value {
		return f(operands[0], operands[1], operands[2], operands[3])
	}
}

func tableOf() valueFunction { return valueFunction{"TableOf", 2, ofTwo(impl.TableOf), tableMeaning} }

func countRows() valueFunction {
	return valueFunction{"CountRows", 1, ofOne(impl.CountRows), countMeaning}
}

func columnOf() valueFunction {
	return valueFunction{"ColumnOf", 2, ofTwo(impl.ColumnOf), columnMeaning}
}

func keepColumns() valueFunction {
	return valueFunction{"KeepColumns", 2, ofTwo(impl.KeepColumns), keepMeaning}
}

func whereEqual() valueFunction {
	return valueFunction{"WhereEqual", 3, ofThree(impl.WhereEqual), whereMeaning}
}

func addColumn() valueFunction {
	return valueFunction{"AddColumn", 4, ofFour(impl.AddColumn), addMeaning}
}

func groupSum() valueFunction {
	return valueFunction{"GroupSum", 3, ofThree(impl.GroupSum), groupMeaning}
}

func joinOn() valueFunction { return valueFunction{"JoinOn", 3, ofThree(impl.JoinOn), joinMeaning} }

// A tableFunction is a function of the chapter with the kinds of its operands.
type tableFunction struct {
	valueFunction
	kinds []int
}

func everyTableFunction() []tableFunction {
	return []tableFunction{
		{tableOf(), []int{2, 3}}, {countRows(), []int{5}}, {columnOf(), []int{2, 5}}, {keepColumns(), []int{2, 5}},
		{whereEqual(), []int{2, 1, 5}}, {addColumn(), []int{2, 2, 2, 5}}, {groupSum(), []int{2, 2, 5}}, {joinOn(), []int{2, 5, 5}},
	}
}

// A namedRow is a row with its cells by the names of their columns, and with origins in any order.
type namedRow struct {
	cells map[string]int
	from  []impl.Origin
}

func namedRows(v impl.Value) []namedRow {
	var rows []namedRow
	for _, r := range v.Rows {
		cells := map[string]int{}
		for i, name := range v.Columns {
			cells[name] = r.Cells[i]
		}
		rows = append(rows, namedRow{cells, r.From})
	}
	return rows
}

func tableOfNamed(columns []string, rows []namedRow) impl.Value {
	v := tableValue(columns)
	for _, r := range rows {
		row := impl.Row{From: ascending(r.from)}
		for _, name := range columns {
			row.Cells = append(row.Cells, r.cells[name])
		}
		v.Rows = append(v.Rows, row)
	}
	return v
}

func ascending(from []impl.Origin) []impl.Origin {
	var all []impl.Origin
	for _, o := range from {
		i := 0
		for i < len(all) && (all[i].Cell < o.Cell || all[i].Cell == o.Cell && all[i].Row < o.Row) {
			i++
		}
		if i == len(all) || all[i] != o {
			all = slices.Insert(all, i, o)
		}
	}
	return all
}

func haveKinds(list []impl.Value, kinds ...int) bool {
	for i, v := range list {
		if v.Kind != kinds[i] {
			return false
		}
	}
	return true
}

func isName(s string) bool {
	return nameForm.MatchString(s) && !slices.Contains(everyReservedWord(), s)
}

func isDistinct(list []string) bool {
	seen := map[string]bool{}
	for _, s := range list {
		seen[s] = true
	}
	return len(seen) == len(list)
}

func hasColumns(v impl.Value, names ...string) bool {
	for _, name := range names {
		if !slices.Contains(v.Columns, name) {
			return false
		}
	}
	return true
}

func tableMeaning(o ...impl.Value) impl.Value {
	if !haveKinds(o, 2, 3) {
		return failure(4)
	}
	names := strings.Split(o[0].Text, " ")
	if len(names) > 4 || !isDistinct(names) || slices.ContainsFunc(names, func(s string) bool { return !isName(s) }) {
		return failure(7)
	}
	v := tableValue(names)
	for _, element := range o[1].List {
		if element.Kind != 3 || len(element.List) != len(names) {
			return failure(4)
		}
		var r impl.Row
		for _, cell := range element.List {
			if cell.Kind != 1 {
				return failure(4)
			}
			r.Cells = append(r.Cells, cell.N)
		}
		v.Rows = append(v.Rows, r)
	}
	return v
}

func countMeaning(o ...impl.Value) impl.Value {
	if !haveKinds(o, 5) {
		return failure(4)
	}
	return impl.Value{Kind: 1, N: len(o[0].Rows)}
}

func columnMeaning(o ...impl.Value) impl.Value {
	switch {
	case !haveKinds(o, 2, 5):
		return failure(4)
	case !hasColumns(o[1], o[0].Text):
		return failure(7)
	case len(o[1].Rows) > 8:
		return failure(6)
	}
	var cells []int
	for _, r := range namedRows(o[1]) {
		cells = append(cells, r.cells[o[0].Text])
	}
	return numbers(cells...)
}

func keepMeaning(o ...impl.Value) impl.Value {
	if !haveKinds(o, 2, 5) {
		return failure(4)
	}
	names := strings.Split(o[0].Text, " ")
	if !isDistinct(names) || !hasColumns(o[1], names...) {
		return failure(7)
	}
	return tableOfNamed(names, namedRows(o[1]))
}

func whereMeaning(o ...impl.Value) impl.Value {
	if !haveKinds(o, 2, 1, 5) {
		return failure(4)
	}
	if !hasColumns(o[2], o[0].Text) {
		return failure(7)
	}
	rows := slices.DeleteFunc(namedRows(o[2]), func(r namedRow) bool { return r.cells[o[0].Text] != o[1].N })
	return tableOfNamed(o[2].Columns, rows)
}

func addMeaning(o ...impl.Value) impl.Value {
	if !haveKinds(o, 2, 2, 2, 5) {
		return failure(4)
	}
	name, a, b, v := o[0].Text, o[1].Text, o[2].Text, o[3]
	if !isName(name) || hasColumns(v, name) || !hasColumns(v, a, b) {
		return failure(7)
	}
	if len(v.Columns) == 4 {
		return failure(6)
	}
	rows := namedRows(v)
	for _, r := range rows {
		sum := exact(impl.OpAdd, r.cells[a], r.cells[b])
		if sum.Kind == 6 {
			return sum
		}
		r.cells[name] = sum.N
	}
	return tableOfNamed(append(slices.Clone(v.Columns), name), rows)
}

func groupMeaning(o ...impl.Value) impl.Value {
	if !haveKinds(o, 2, 2, 5) {
		return failure(4)
	}
	a, b := o[0].Text, o[1].Text
	if a == b || !hasColumns(o[2], a, b) {
		return failure(7)
	}
	groups := map[int]namedRow{}
	for _, r := range namedRows(o[2]) {
		g := groups[r.cells[a]]
		sum := r.cells[b] + g.cells[b]
		groups[r.cells[a]] = namedRow{map[string]int{a: r.cells[a], b: sum}, slices.Concat(g.from, r.from)}
	}
	var rows []namedRow
	for _, g := range groups {
		if g.cells[b] > limit || g.cells[b] < -limit {
			return failure(5)
		}
		rows = append(rows, g)
	}
	slices.SortFunc(rows, func(p, q namedRow) int { return p.cells[a] - q.cells[a] })
	return tableOfNamed([]string{a, b}, rows)
}

func joinMeaning(o ...impl.Value) impl.Value {
	if !haveKinds(o, 2, 5, 5) {
		return failure(4)
	}
	name, s, v := o[0].Text, o[1], o[2]
	columns := slices.Clone(s.Columns)
	for _, c := range v.Columns {
		if c != name && hasColumns(s, c) {
			return failure(7)
		}
		if c != name {
			columns = append(columns, c)
		}
	}
	if !hasColumns(s, name) || !hasColumns(v, name) {
		return failure(7)
	}
	var rows []namedRow
	for _, p := range namedRows(s) {
		for _, q := range namedRows(v) {
			if p.cells[name] != q.cells[name] {
				continue
			}
			cells := maps.Clone(p.cells)
			maps.Copy(cells, q.cells)
			rows = append(rows, namedRow{cells, slices.Concat(q.from, p.from)})
		}
	}
	if len(columns) > 4 || len(rows) > 12 {
		return failure(6)
	}
	return tableOfNamed(columns, rows)
}

func checkColumnIndex(t *testing.T, v impl.Value, name string, want int) {
	t.Helper()
	if got := impl.ColumnIndex(v, name); got != want {
		t.Errorf("ColumnIndex of %q in the columns %q = %d, want %d", name, v.Columns, got, want)
	}
}

func TestColumnIndexKnown(t *testing.T) {
	for _, v := range []impl.Value{grid("b a abc d1"), grid("b a abc d1; 1 2 3 4"), counted("b a abc d1", 1, 12)} {
		for i, name := range []string{"b", "a", "abc", "d1"} {
			checkColumnIndex(t, v, name, i)
		}
		for _, name := range []string{"", "ab", "abcd", "d", "1", "c", "A", " a", "a ", "b a", "a\x00", "sum", "1 2"} {
			checkColumnIndex(t, v, name, -1)
		}
	}
	checkColumnIndex(t, grid("a"), "a", 0)
	checkColumnIndex(t, grid("a"), "b", -1)
}

// ColumnIndex looks at the columns, whatever else the value is.
func TestColumnIndexOfOtherValues(t *testing.T) {
	many := strings.Split("x y x z y a sum sum", " ")
	for name, want := range map[string]int{"x": 0, "y": 1, "z": 3, "a": 5, "sum": 6, "b": -1, "": -1} {
		checkColumnIndex(t, impl.Value{Kind: impl.ValueTable, Columns: many}, name, want)
		checkColumnIndex(t, impl.Value{Kind: impl.ValueTable, Columns: many, Rows: []impl.Row{{}, {Cells: []int{1}}}}, name, want)
		checkColumnIndex(t, impl.Value{Kind: impl.ValueNumber, Columns: many}, name, want)
		checkColumnIndex(t, impl.Value{Columns: many}, name, want)
	}
	checkColumnIndex(t, impl.Value{Kind: impl.ValueTable, Columns: []string{"", "A b", ""}}, "", 0)
	checkColumnIndex(t, impl.Value{Kind: impl.ValueTable, Columns: []string{"", "A b", ""}}, "A b", 1)
	for _, v := range slices.Concat(operands(), invalidValues(), largeValues()) {
		if v.Kind != impl.ValueTable && len(v.Columns) == 0 {
			checkColumnIndex(t, v, "a", -1)
			checkColumnIndex(t, v, "", -1)
		}
	}
}

func TestColumnIndexAllShortLists(t *testing.T) {
	names := []string{"a", "b", "ab", ""}
	for size := range 5 {
		for _, columns := range listsOver(names, size) {
			for _, name := range append(names, "c") {
				want := -1
				for i := len(columns) - 1; i >= 0; i-- {
					if columns[i] == name {
						want = i
					}
				}
				checkColumnIndex(t, impl.Value{Kind: impl.ValueTable, Columns: columns}, name, want)
			}
		}
	}
}

func TestTableOfNames(t *testing.T) {
	row := func(names string) impl.Value {
		return numbers(make([]int, len(strings.Split(names, " ")))...)
	}
	for _, names := range []string{"a", "a b", "b a", "a b c d", "d c b a", "abcdefgh", "z9 a0 x", "abcdefgh abcdefg abc", "lets summer", "a aa aaa aaaa"} {
		v := tableValue(strings.Split(names, " "))
		tableOf().check(t, v, impl.TextValue(names), numbers())
		v.Rows = []impl.Row{{Cells: make([]int, len(v.Columns))}}
		tableOf().check(t, v, impl.TextValue(names), listOf(row(names)))
	}
	bad := []string{
		"", " ", "  ", "a b c d e", "a b c d e f g h i j", "a a", "a b a", "a b c a", "a b c d a", "b b b", "a  b", "a   b", " a", "a ", " a b", "a b ", "  a", "a  ",
		"A", "1", "1a", "a B", "a-b", "a,b", "a, b", "a;b", "a_b", "abcdefghi", "a abcdefghi", "~", "a ~",
	}
	for _, word := range everyReservedWord() {
		bad = append(bad, word, "a "+word, word+" a", "a b c "+word)
	}
	for _, names := range bad {
		for _, rows := range []impl.Value{numbers(), listOf(row(names)), listOf(row(names), row(names))} {
			if impl.IsValidValue(rows) {
				tableOf().check(t, failure(7), impl.TextValue(names), rows)
			}
		}
	}
}

func TestTableOfRows(t *testing.T) {
	for _, names := range []string{"a", "b a", "x y z", "a b c d"} {
		for size := range 13 {
			want := counted(names, 1, size)
			var rows []impl.Value
			for _, r := range want.Rows {
				rows = append(rows, numbers(r.Cells...))
			}
			// A list that is longer than MaxList is no valid operand, although a table may have so many rows.
			if size > 8 {
				want = failure(4)
			}
			tableOf().check(t, withoutOrigins(want), impl.TextValue(names), listOf(rows...))
		}
	}
	extreme := listOf(numbers(limit, -limit), numbers(0, limit), numbers(-1, 1), numbers(0, limit))
	tableOf().check(t, grid("b a; 1000000000 -1000000000; 0 1000000000; -1 1; 0 1000000000"), impl.TextValue("b a"), extreme)
	tableOf().check(t, grid("a; 3; 1; 3; 2"), impl.TextValue("a"), listOf(numbers(3), numbers(1), numbers(3), numbers(2)))
	tableOf().check(t, failure(4), impl.TextValue("a"), listOf(numbers(limit+1)))
}

func TestTableOfOtherRows(t *testing.T) {
	number, text := impl.NumberValue(1), impl.TextValue("1")
	good := numbers(1, 2)
	for _, bad := range []impl.Value{
		number, text, impl.TextValue(""), impl.TextValue("1 2"), numbers(), numbers(1), numbers(1, 2, 3), numbers(1, 2, 3, 4), numbers(1, 2, 3, 4, 5, 6, 7, 8),
		listOf(number, text), listOf(text, number), listOf(text, text), listOf(number, numbers()), listOf(numbers(), number), listOf(numbers(), numbers()), listOf(numbers()),
	} {
		for _, rows := range []impl.Value{listOf(bad), listOf(bad, good), listOf(good, bad), listOf(good, bad, good), listOf(good, good, good, good, good, good, good, bad)} {
			tableOf().check(t, failure(4), impl.TextValue("a b"), rows)
			// The names come first.
			for _, names := range []string{"", "a a", "a  b", "a b ", "a sum", "a b c d e", "A b"} {
				tableOf().check(t, failure(7), impl.TextValue(names), rows)
			}
		}
	}
	// Rows of lists that have the required number of cells only together.
	tableOf().check(t, failure(4), impl.TextValue("a b"), listOf(numbers(1), numbers(1, 2, 3)))
	tableOf().check(t, failure(4), impl.TextValue("a b"), numbers(1, 2))
	tableOf().check(t, failure(4), impl.TextValue("a"), numbers(1))
	tableOf().check(t, failure(4), impl.TextValue("a"), listOf(nested(2)))
}

func TestCountRowsKnown(t *testing.T) {
	for size := range 13 {
		countRows().check(t, impl.Value{Kind: 1, N: size}, counted("a", 1, size))
		countRows().check(t, impl.Value{Kind: 1, N: size}, counted("a b c d", 1, size))
		countRows().check(t, impl.Value{Kind: 1, N: size}, withoutOrigins(counted("x y", 1, size)))
	}
	for _, size := range []int{13, 14, 25, 256, 1000} {
		countRows().check(t, failure(4), counted("a", 1, size))
	}
	countRows().check(t, impl.Value{Kind: 1, N: 3}, grid("a; 5; 5; 5"))
}

func TestColumnOfKnown(t *testing.T) {
	text := impl.TextValue
	for size := range 13 {
		v := counted("b a abc c", 1, size)
		for j, name := range v.Columns {
			var cells []int
			for i := range size {
				cells = append(cells, 10*(i+1)+j)
			}
			want := numbers(cells...)
			if size > 8 {
				want = failure(6)
			}
			columnOf().check(t, want, text(name), v)
		}
		for _, name := range []string{"", "ab", "z", "b a", "a ", "A", "sum", "let"} {
			columnOf().check(t, failure(7), text(name), v)
		}
	}
	for _, name := range []string{"a", "z"} {
		columnOf().check(t, failure(4), text(name), counted("a", 1, 13))
	}
	v := grid("a b; 1000000000 0; -1000000000 0; 0 5; 0 5")
	columnOf().check(t, numbers(limit, -limit, 0, 0), text("a"), v)
	columnOf().check(t, numbers(0, 0, 5, 5), text("b"), v)
	columnOf().check(t, numbers(), text("a"), grid("a"))
}

func TestKeepColumnsKnown(t *testing.T) {
	v := grid("a b c; 1 2 3 @1.0; 4 5 6; 1 2 3 @1.0 @2.7 @3.0")
	for names, want := range map[string]string{
		"a": "a; 1 @1.0; 4; 1 @1.0 @2.7 @3.0", "b": "b; 2 @1.0; 5; 2 @1.0 @2.7 @3.0", "c": "c; 3 @1.0; 6; 3 @1.0 @2.7 @3.0",
		"a b": "a b; 1 2 @1.0; 4 5; 1 2 @1.0 @2.7 @3.0", "b a": "b a; 2 1 @1.0; 5 4; 2 1 @1.0 @2.7 @3.0", "c a": "c a; 3 1 @1.0; 6 4; 3 1 @1.0 @2.7 @3.0",
		"a b c": "a b c; 1 2 3 @1.0; 4 5 6; 1 2 3 @1.0 @2.7 @3.0", "c b a": "c b a; 3 2 1 @1.0; 6 5 4; 3 2 1 @1.0 @2.7 @3.0", "b c a": "b c a; 2 3 1 @1.0; 5 6 4; 2 3 1 @1.0 @2.7 @3.0",
	} {
		keepColumns().check(t, grid(want), impl.TextValue(names), v)
		keepColumns().check(t, grid(strings.Split(want, "; ")[0]), impl.TextValue(names), grid("a b c"))
	}
	for _, names := range []string{
		"", " ", "z", "a z", "z a", "a b c z", "a a", "a b a", "c c c", "a b c a", "a b c a b c", "a  b", " a", "a ", "a b c ", "ab", "abc", "a,b", "A", "sum", "a sum", "b b z",
	} {
		keepColumns().check(t, failure(7), impl.TextValue(names), v)
		keepColumns().check(t, failure(7), impl.TextValue(names), grid("a b c"))
	}
}

func TestKeepColumnsOfAllLists(t *testing.T) {
	v := counted("a b c d", 3, 12)
	for size := range 6 {
		for _, list := range listsOver([]string{"a", "b", "c", "d"}, size) {
			keepColumns().checkMeaning(t, impl.TextValue(strings.Join(list, " ")), v)
		}
	}
}

func TestWhereEqualKnown(t *testing.T) {
	v := grid("a b; 1 2 @1.0; 2 1; 1 3 @1.2 @4.0; 1 2 @1.0; -1 0 @2.2")
	for _, c := range []struct {
		name string
		n    int
		want string
	}{
		{"a", 1, "a b; 1 2 @1.0; 1 3 @1.2 @4.0; 1 2 @1.0"}, {"a", 2, "a b; 2 1"}, {"a", -1, "a b; -1 0 @2.2"}, {"a", 0, "a b"}, {"a", 3, "a b"}, {"a", limit, "a b"}, {"a", -limit, "a b"},
		{"b", 2, "a b; 1 2 @1.0; 1 2 @1.0"}, {"b", 1, "a b; 2 1"}, {"b", 3, "a b; 1 3 @1.2 @4.0"}, {"b", 0, "a b; -1 0 @2.2"}, {"b", -1, "a b"},
	} {
		whereEqual().check(t, grid(c.want), impl.TextValue(c.name), impl.NumberValue(c.n), v)
	}
	for _, n := range []int{0, 1, -1, limit} {
		for _, name := range []string{"", "z", "ab", "a b", "a ", "A", "sum", "1"} {
			whereEqual().check(t, failure(7), impl.TextValue(name), impl.NumberValue(n), v)
			whereEqual().check(t, failure(7), impl.TextValue(name), impl.NumberValue(n), grid("a b"))
		}
		whereEqual().check(t, grid("a b"), impl.TextValue("a"), impl.NumberValue(n), grid("a b"))
	}
	all := grid("a b" + strings.Repeat("; 7 8 @1.0 @1.1", 12))
	whereEqual().check(t, all, impl.TextValue("a"), impl.NumberValue(7), all)
	whereEqual().check(t, all, impl.TextValue("b"), impl.NumberValue(8), all)
	whereEqual().check(t, grid("a b"), impl.TextValue("b"), impl.NumberValue(7), all)
	limits := grid("a; 1000000000 @1.0; -1000000000 @1.1")
	whereEqual().check(t, grid("a; 1000000000 @1.0"), impl.TextValue("a"), impl.NumberValue(limit), limits)
	whereEqual().check(t, grid("a; -1000000000 @1.1"), impl.TextValue("a"), impl.NumberValue(-limit), limits)
}

func TestAddColumnKnown(t *testing.T) {
	for _, c := range []struct{ name, a, b, v, want string }{
		{"s", "a", "b", "a b; 1 2 @1.0; -5 3; 1 2 @1.0 @2.7", "a b s; 1 2 3 @1.0; -5 3 -2; 1 2 3 @1.0 @2.7"},
		{"s", "b", "a", "a b; 1 2 @1.0; -5 3", "a b s; 1 2 3 @1.0; -5 3 -2"},
		{"s", "a", "a", "a b; 1 2 @1.0; -5 3", "a b s; 1 2 2 @1.0; -5 3 -10"},
		{"s", "b", "b", "a b; 1 2 @1.0; -5 3", "a b s; 1 2 4 @1.0; -5 3 6"},
		{"s", "a", "a", "a; 7 @3.9", "a s; 7 14 @3.9"},
		{"abcdefgh", "c", "a", "a b c; 1 2 3", "a b c abcdefgh; 1 2 3 4"},
		{"s", "a", "b", "a b", "a b s"},
		{"s", "a", "a", "a", "a s"},
		{"s", "a", "b", "a b; 1000000000 0; -1000000000 0; 999999999 1; -1 -999999999; 1000000000 -1000000000", "a b s; 1000000000 0 1000000000; -1000000000 0 -1000000000; 999999999 1 1000000000; -1 -999999999 -1000000000; 1000000000 -1000000000 0"},
		{"s", "a", "a", "a; 500000000; -500000000", "a s; 500000000 1000000000; -500000000 -1000000000"},
		// Only the cells of the two columns are added.
		{"s", "a", "b", "a b c; 1 2 1000000000", "a b c s; 1 2 1000000000 3"},
	} {
		addColumn().check(t, grid(c.want), impl.TextValue(c.name), impl.TextValue(c.a), impl.TextValue(c.b), grid(c.v))
	}
}

func TestAddColumnErrors(t *testing.T) {
	check := func(code int, name, a, b, v string) {
		t.Helper()
		addColumn().check(t, failure(code), impl.TextValue(name), impl.TextValue(a), impl.TextValue(b), grid(v))
	}
	notNames := append(everyReservedWord(), "", " ", "A", "1", "s ", " s", "s t", "abcdefghi", "a", "b", "c-d")
	for _, v := range []string{"a b", "a b; 1 2", "a b; 1000000000 1", "a b c d; 1 2 3 4", "a b c d; 1000000000 1 1 1"} {
		for _, name := range notNames {
			check(7, name, "a", "b", v)
		}
		for _, missing := range []string{"", "s", "z", "ab", "a b", "a ", "sum", "A"} {
			check(7, "s", missing, "a", v)
			check(7, "s", "a", missing, v)
			check(7, "s", missing, missing, v)
			check(7, "a", missing, "b", v)
		}
	}
	for _, v := range []string{"a b c d", "a b c d; 1 2 3 4", "a b c d; 1000000000 1 1 1"} {
		check(6, "s", "a", "b", v)
		check(6, "s", "a", "a", v)
	}
	for _, v := range []string{
		"a b; 1000000000 1", "a b; 1 1000000000", "a b; -1000000000 -1", "a b; -1 -1000000000", "a b; 1000000000 1000000000", "a b; -1000000000 -1000000000",
		"a b; 500000001 500000000", "a b; 999999999 2", "a b; 1 2; 1000000000 1", "a b; 1000000000 1; 1 2", "a b; 1 1; 1000000000 1; -1000000000 -1",
	} {
		check(5, "s", "a", "b", v)
		check(5, "s", "b", "a", v)
	}
	check(5, "s", "a", "a", "a; 500000001")
	check(5, "s", "a", "a", "a; -500000001")
	check(5, "s", "a", "b", "a b c; 1000000000 1 -1")
}

func TestGroupSumKnown(t *testing.T) {
	for _, c := range []struct{ a, b, v, want string }{
		{"a", "b", "a b", "a b"},
		{"a", "b", "a b; 5 7 @1.3", "a b; 5 7 @1.3"},
		{"a", "b", "a b; 1 2; 1 3; 2 5", "a b; 1 5; 2 5"},
		{"b", "a", "a b; 1 2; 1 3; 2 5", "b a; 2 1; 3 1; 5 2"},
		{"a", "b", "a b; 3 1; 1 2; 2 4; 1 8; 3 16", "a b; 1 10; 2 4; 3 17"},
		{"a", "b", "a b; 9 1; 8 1; 7 1; 10 1; 11 1; 100 1", "a b; 7 1; 8 1; 9 1; 10 1; 11 1; 100 1"},
		{"a", "b", "a b; 0 5; -1 6; 1 7; -10 8; -2 9; -1 -6", "a b; -10 8; -2 9; -1 0; 0 5; 1 7"},
		{"a", "b", "a b; 1000000000 -1; -1000000000 1; 0 0", "a b; -1000000000 1; 0 0; 1000000000 -1"},
		{"c", "a", "a b c; 1 50 2; 3 60 2; 5 70 1", "c a; 1 5; 2 4"},
		{"a", "b", "a b; 4 1; 4 1; 4 1; 4 1; 4 1; 4 1; 4 1; 4 1; 4 1; 4 1; 4 1; 4 1", "a b; 4 12"},
		{"a", "b", "a b; 12 0; 11 0; 10 0; 9 0; 8 0; 7 0; 6 0; 5 0; 4 0; 3 0; 2 0; 1 0", "a b; 1 0; 2 0; 3 0; 4 0; 5 0; 6 0; 7 0; 8 0; 9 0; 10 0; 11 0; 12 0"},
		// Sums at the limits, and sums of several groups that are beyond them only together.
		{"a", "b", "a b; 1 999999999; 1 1", "a b; 1 1000000000"},
		{"a", "b", "a b; 1 -999999999; 1 -1", "a b; 1 -1000000000"},
		{"a", "b", "a b; 1 1000000000; 1 0; 2 1000000000; 3 -1000000000", "a b; 1 1000000000; 2 1000000000; 3 -1000000000"},
		{"a", "b", "a b; 1 1000000000; 1 -1000000000; 1 1000000000", "a b; 1 1000000000"},
	} {
		groupSum().check(t, grid(c.want), impl.TextValue(c.a), impl.TextValue(c.b), grid(c.v))
	}
}

func TestGroupSumOutOfRange(t *testing.T) {
	a, b := impl.TextValue("a"), impl.TextValue("b")
	for _, v := range []string{
		"a b; 1 1000000000; 1 1", "a b; 1 1; 1 1000000000", "a b; 1 -1000000000; 1 -1", "a b; 1 1000000000; 1 1000000000", "a b; 1 500000001; 1 0; 1 500000000",
		"a b; 2 5; 1 1000000000; 3 7; 1 1", "a b; 3 1000000000; 3 1; 1 2", "a b; 1 2; 3 1000000000; 3 1", "a b; 1 1000000000; 1 1; 2 -1000000000; 2 -1",
		"a b; 1 1000000000; 1 1; 2 -1", "a b" + strings.Repeat("; 1 1000000000", 12), "a b" + strings.Repeat("; -1 -1000000000", 12),
	} {
		groupSum().check(t, failure(5), a, b, grid(v))
	}
	// The sum is that of all rows with the cell: it is in range, although that of the first ones is not.
	for v, want := range map[string]string{
		"a b; 1 1000000000; 1 1; 1 -1":                                 "a b; 1 1000000000",
		"a b; 1 -1000000000; 1 -1; 1 1":                                "a b; 1 -1000000000",
		"a b; 1 1000000000; 1 1000000000; 1 -1000000000":               "a b; 1 1000000000",
		"a b; 1 1000000000; 2 7; 1 5; 2 8; 1 -1000000000":              "a b; 1 5; 2 15",
		"a b; 1 -1000000000; 1 -1000000000; 1 1000000000; 1 999999999": "a b; 1 -1",
	} {
		groupSum().check(t, grid(want), a, b, grid(v))
	}
}

func TestGroupSumErrors(t *testing.T) {
	for _, v := range []string{"a b", "a b; 1 2", "a b; 1 1000000000; 1 1", "a b c d; 1 2 3 4"} {
		for _, missing := range []string{"", "z", "ab", "a b", "a ", "A", "sum"} {
			for _, pair := range [][2]string{{missing, "a"}, {"a", missing}, {missing, missing}, {"b", missing}} {
				groupSum().check(t, failure(7), impl.TextValue(pair[0]), impl.TextValue(pair[1]), grid(v))
			}
		}
		for _, same := range []string{"a", "b"} {
			groupSum().check(t, failure(7), impl.TextValue(same), impl.TextValue(same), grid(v))
		}
	}
}

func TestJoinOnKnown(t *testing.T) {
	for _, c := range []struct{ name, s, v, want string }{
		{"a", "a b; 1 2; 1 3; 2 5", "a c; 1 9", "a b c; 1 2 9; 1 3 9"},
		{"a", "a c; 1 9", "a b; 1 2; 1 3; 2 5", "a c b; 1 9 2; 1 9 3"},
		// The column may be anywhere in both.
		{"k", "b k; 2 1; 3 4", "c k; 9 4; 8 1", "b k c; 2 1 8; 3 4 9"},
		{"k", "k b; 1 2", "c k d; 7 1 8", "k b c d; 1 2 7 8"},
		{"k", "b k; 2 1", "k c d; 1 7 8", "b k c d; 2 1 7 8"},
		{"k", "k; 1", "c d e k; 5 6 7 1", "k c d e; 1 5 6 7"},
		{"k", "c d e k; 5 6 7 1", "k; 1", "c d e k; 5 6 7 1"},
		// No rows, and no equal cells.
		{"a", "a b", "a c", "a b c"}, {"a", "a b; 1 2", "a c", "a b c"}, {"a", "a b", "a c; 1 2", "a b c"}, {"a", "a b; 1 2; 3 4", "a c; 2 1; 4 3", "a b c"},
		// Several equal cells on both sides, in the order of the rows of the first table, then of the second one.
		{"a", "a b; 1 10; 2 20; 1 30", "a c; 1 5; 2 6; 1 7", "a b c; 1 10 5; 1 10 7; 2 20 6; 1 30 5; 1 30 7"},
		{"a", "a b; 5 3; 5 1; 5 2", "a c; 5 9; 5 8", "a b c; 5 3 9; 5 3 8; 5 1 9; 5 1 8; 5 2 9; 5 2 8"},
		{"a", "a b; 1000000000 1; -1000000000 2", "a c; -1000000000 3; 1000000000 4; 0 5", "a b c; 1000000000 1 4; -1000000000 2 3"},
		// Equal cells in other columns do not count.
		{"a", "a b; 1 7; 2 7", "a c; 3 7; 7 1", "a b c"},
		{"a", "a; 1; 2; 2", "a; 2; 1; 2", "a; 1; 2; 2; 2; 2"},
	} {
		joinOn().check(t, grid(c.want), impl.TextValue(c.name), grid(c.s), grid(c.v))
	}
}

func TestJoinOnItself(t *testing.T) {
	one := grid("a; 1 @1.0; 2 @1.1; 1 @1.2; 5")
	joinOn().check(t, grid("a; 1 @1.0; 1 @1.0 @1.2; 2 @1.1; 1 @1.0 @1.2; 1 @1.2; 5"), impl.TextValue("a"), one, one)
	joinOn().check(t, grid("a"), impl.TextValue("a"), grid("a"), grid("a"))
	for _, columns := range []string{"a b", "a b c", "a b c d"} {
		for _, name := range []string{"a", "b", "z", ""} {
			v := counted(columns, 1, 2)
			joinOn().check(t, failure(7), impl.TextValue(name), v, v)
		}
	}
	three := grid("a; 1; 1; 1")
	joinOn().check(t, grid("a"+strings.Repeat("; 1", 9)), impl.TextValue("a"), three, three)
	four := grid("a; 1; 1; 1; 1")
	joinOn().check(t, failure(6), impl.TextValue("a"), four, four)
}

func TestJoinOnErrors(t *testing.T) {
	check := func(code int, name, s, v string) {
		t.Helper()
		joinOn().check(t, failure(code), impl.TextValue(name), grid(s), grid(v))
		joinOn().check(t, failure(code), impl.TextValue(name), grid(v), grid(s))
	}
	many := "a b" + strings.Repeat("; 1 1", 12)
	for _, rows := range []string{"", "; 1 2"} {
		for _, name := range []string{"b", "c", "", "z", "a ", "ab", "a b", "A", "sum"} {
			check(7, name, "a b"+rows, "a c"+rows)
		}
		check(7, "a", "a b"+rows, "a b"+rows)
		check(7, "a", "a b"+rows, "b a"+rows)
		check(7, "a", "b c"+rows, "a b"+rows)
		check(7, "b", "a b"+rows, "b a"+rows)
		check(7, "a", "x a"+rows, "a x"+rows)
	}
	// Too many columns or rows as well: ErrorColumn comes first.
	check(7, "a", "a b c d; 1 1 1 1", "a b e f; 1 1 1 1")
	check(7, "z", "a b c; 1 1 1", "d e f; 1 1 1")
	check(7, "a", "a b c; 1 1 1", "d e f; 1 1 1")
	check(7, "a", many, many)
	check(7, "z", many, many)
	check(7, "a", many, "c d"+strings.Repeat("; 1 1", 12))
	check(6, "a", "a b c; 1 1 1", "a d e; 1 1 1")
	check(6, "a", "a b c; 1 1 1", "a d e; 2 2 2")
	check(6, "a", "a b c", "a d e")
	check(6, "a", "a b c d", "e a")
	check(6, "a", "a b c d", "a e f g")
	check(6, "a", "a b c d; 1 1 1 1", "a e f g; 1 1 1 1")
}

func TestJoinOnMaximumOfRows(t *testing.T) {
	for _, c := range []struct {
		s, v []int
		rows int
	}{
		{[]int{1, 1, 1}, []int{1, 1, 1, 1}, 12}, {[]int{1}, slices.Repeat([]int{1}, 12), 12}, {slices.Repeat([]int{1}, 12), []int{1}, 12},
		{[]int{1, 1, 1, 2}, []int{2, 1, 1, 1}, 10}, {[]int{1, 2, 1, 2, 1, 2}, []int{1, 2, 1, 2}, 12},
		{[]int{1, 1, 1, 2}, []int{1, 1, 1, 1, 2}, 13}, {[]int{2, 1, 1, 1}, []int{1, 1, 1, 1, 2}, 13}, {slices.Repeat([]int{1}, 12), []int{1, 1}, 24},
		{slices.Repeat([]int{1}, 12), slices.Repeat([]int{1}, 12), 144}, {[]int{1, 2, 3, 4, 5, 6, 7, 8, 9, 10, 11, 12}, []int{12, 11, 10, 9, 8, 7, 6, 5, 4, 3, 2, 1}, 12},
	} {
		s, v := grid("a b"), grid("c a")
		for i, n := range c.s {
			s.Rows = append(s.Rows, impl.Row{Cells: []int{n, 100 + i}})
		}
		for i, n := range c.v {
			v.Rows = append(v.Rows, impl.Row{Cells: []int{200 + i, n}})
		}
		joinOn().checkMeaning(t, impl.TextValue("a"), s, v)
		got := impl.JoinOn(impl.TextValue("a"), s, v)
		if c.rows <= 12 && (got.Kind != 5 || len(got.Rows) != c.rows) || c.rows > 12 && !reflect.DeepEqual(normal(got), failure(6)) {
			t.Errorf("JoinOn of %d and %d: %+v, want %d rows", c.s, c.v, got, c.rows)
		}
	}
}

func TestOriginsOfTableOperations(t *testing.T) {
	text := impl.TextValue
	v := grid("a b; 1 5 @2.0 @7.1; 2 5; 1 7 @1.9 @2.0; 2 8 @3.3; 1 5 @0.0 @2.1 @2.10")
	whereEqual().check(t, grid("a b; 1 5 @2.0 @7.1; 2 5; 1 5 @0.0 @2.1 @2.10"), text("b"), impl.NumberValue(5), v)
	keepColumns().check(t, grid("b; 5 @2.0 @7.1; 5; 7 @1.9 @2.0; 8 @3.3; 5 @0.0 @2.1 @2.10"), text("b"), v)
	addColumn().check(t, grid("a b s; 1 5 6 @2.0 @7.1; 2 5 7; 1 7 8 @1.9 @2.0; 2 8 10 @3.3; 1 5 6 @0.0 @2.1 @2.10"), text("s"), text("a"), text("b"), v)
	groupSum().check(t, grid("a b; 1 17 @0.0 @1.9 @2.0 @2.1 @2.10 @7.1; 2 13 @3.3"), text("a"), text("b"), v)
	groupSum().check(t, grid("b a; 5 4 @0.0 @2.0 @2.1 @2.10 @7.1; 7 1 @1.9 @2.0; 8 2 @3.3"), text("b"), text("a"), v)
	s := grid("a c; 1 4 @2.0 @5.5; 2 6 @3.3; 1 8")
	joinOn().check(t, grid("a c b; 1 4 5 @2.0 @5.5 @7.1; 1 4 7 @1.9 @2.0 @5.5; 1 4 5 @0.0 @2.0 @2.1 @2.10 @5.5; 2 6 5 @3.3; 2 6 8 @3.3; 1 8 5 @2.0 @7.1; 1 8 7 @1.9 @2.0; 1 8 5 @0.0 @2.1 @2.10"), text("a"), s, v)
	// The same origins in every row, and none in any.
	same := grid("a b; 1 2 @1.0 @4.0; 1 3 @1.0 @4.0; 1 4 @1.0 @4.0")
	groupSum().check(t, grid("a b; 1 9 @1.0 @4.0"), text("a"), text("b"), same)
	joinOn().check(t, grid("a b c; 1 2 7 @1.0 @4.0; 1 3 7 @1.0 @4.0; 1 4 7 @1.0 @4.0"), text("a"), same, grid("a c; 1 7 @4.0"))
	none := withoutOrigins(same)
	groupSum().check(t, grid("a b; 1 9"), text("a"), text("b"), none)
	joinOn().check(t, grid("a b c; 1 2 7; 1 3 7; 1 4 7"), text("a"), none, grid("a c; 1 7"))
	most := impl.Origin{Cell: math.MaxInt, Row: math.MaxInt}
	extreme := impl.Value{Kind: 5, Columns: []string{"a", "b"}, Rows: []impl.Row{{Cells: []int{1, 2}, From: []impl.Origin{most}}, {Cells: []int{1, 2}, From: []impl.Origin{{}, most}}}}
	groupSum().check(t, impl.Value{Kind: 5, Columns: []string{"a", "b"}, Rows: []impl.Row{{Cells: []int{1, 4}, From: []impl.Origin{{}, most}}}}, text("a"), text("b"), extreme)
}

// The number of origins has no limit.
func TestManyOrigins(t *testing.T) {
	v := grid("a b")
	var all []impl.Origin
	for i := range 12 {
		r := impl.Row{Cells: []int{1, i}}
		for j := range 500 {
			r.From = append(r.From, impl.Origin{Cell: j, Row: 12*j + i})
		}
		v.Rows = append(v.Rows, r)
	}
	for j := range 500 {
		for i := range 12 {
			all = append(all, impl.Origin{Cell: j, Row: 12*j + i})
		}
	}
	want := impl.Value{Kind: 5, Columns: []string{"a", "b"}, Rows: []impl.Row{{Cells: []int{1, 66}, From: all}}}
	groupSum().check(t, want, impl.TextValue("a"), impl.TextValue("b"), v)
	want.Columns, want.Rows[0].Cells = []string{"a", "c"}, []int{1, 5}
	joined := impl.JoinOn(impl.TextValue("a"), v, want)
	for i, r := range joined.Rows {
		if !slices.Equal(r.Cells, []int{1, i, 5}) || !slices.Equal(r.From, all) {
			t.Errorf("row %d of a join with many origins is not correct", i)
		}
	}
}

// randomTable returns a valid table with cells and origins that are often equal.
func randomTable(random *rand.Rand) impl.Value {
	names := []string{"a", "b", "c", "d", "e", "f", "g"}
	random.Shuffle(len(names), func(i, j int) { names[i], names[j] = names[j], names[i] })
	v := tableValue(names[:1+random.Intn(4)])
	cell := func() int { return random.Intn(4) - 1 }
	if random.Intn(4) == 0 {
		cell = func() int { return (random.Intn(3)-1)*limit + random.Intn(3)*(1-random.Intn(3)) }
	}
	for range random.Intn(13) {
		var r impl.Row
		for range v.Columns {
			r.Cells = append(r.Cells, min(limit, max(-limit, cell())))
		}
		for range random.Intn(4) {
			r.From = append(r.From, impl.Origin{Cell: random.Intn(3), Row: random.Intn(3)})
		}
		r.From = ascending(r.From)
		v.Rows = append(v.Rows, r)
	}
	return v
}

func TestTableOperationsRandomTables(t *testing.T) {
	random := rand.New(rand.NewSource(7))
	name := func(v impl.Value) impl.Value {
		if random.Intn(6) == 0 {
			return impl.TextValue([]string{"", "a", "b", "c", "sum", "A", "x", "a b"}[random.Intn(8)])
		}
		return impl.TextValue(v.Columns[random.Intn(len(v.Columns))])
	}
	for range 20000 {
		s, v := randomTable(random), randomTable(random)
		var names []string
		for range 1 + random.Intn(4) {
			names = append(names, name(v).Text)
		}
		countRows().checkMeaning(t, v)
		columnOf().checkMeaning(t, name(v), v)
		keepColumns().checkMeaning(t, impl.TextValue(strings.Join(names, " ")), v)
		whereEqual().checkMeaning(t, name(v), impl.NumberValue(random.Intn(4)-1), v)
		addColumn().checkMeaning(t, impl.TextValue([]string{"x", "y", "h", "g", "sum"}[random.Intn(5)]), name(v), name(v), v)
		groupSum().checkMeaning(t, name(v), name(v), v)
		joinOn().checkMeaning(t, name(s), s, v)
		common := s.Columns[random.Intn(len(s.Columns))]
		v.Columns = []string{"t", "u", "v", "w"}[:len(v.Columns)]
		v.Columns[random.Intn(len(v.Columns))] = common
		v.Rows = v.Rows[:min(len(v.Rows), 4)]
		joinOn().checkMeaning(t, impl.TextValue(common), s, v)
		joinOn().checkMeaning(t, impl.TextValue(common), v, s)
	}
}

func TestTableOfRandomLists(t *testing.T) {
	random := rand.New(rand.NewSource(77))
	for range 20000 {
		v := randomTable(random)
		var rows []impl.Value
		for _, r := range v.Rows[:min(8, len(v.Rows))] {
			row := numbers(r.Cells...)
			switch random.Intn(60) {
			case 0:
				row = numbers(r.Cells[1:]...)
			case 1:
				row.List = append(row.List, impl.NumberValue(1))
			case 2:
				row.List[random.Intn(len(row.List))] = []impl.Value{impl.TextValue("1"), numbers()}[random.Intn(2)]
			case 3:
				row = row.List[0]
			}
			rows = append(rows, row)
		}
		names := slices.Clone(v.Columns)
		if random.Intn(5) == 0 {
			names[random.Intn(len(names))] = []string{"", "a", "b", "sum", "A", "a b", "abcdefgh"}[random.Intn(7)]
		}
		tableOf().checkMeaning(t, impl.TextValue(strings.Join(names, " ")), listOf(rows...))
	}
}

// Selected rows are unchanged: the rows with each of the cells of a column are together all rows of the table.
func TestSelectedRowsAreUnchanged(t *testing.T) {
	random := rand.New(rand.NewSource(777))
	for range 2000 {
		v := normal(randomTable(random))
		for i, name := range v.Columns {
			rowsWith := map[int][]impl.Row{}
			for _, r := range v.Rows {
				rowsWith[r.Cells[i]] = append(rowsWith[r.Cells[i]], r)
			}
			for n, rows := range rowsWith {
				selected := impl.Value{Kind: 5, Columns: v.Columns, Rows: rows}
				whereEqual().check(t, selected, impl.TextValue(name), impl.NumberValue(n), v)
				whereEqual().check(t, selected, impl.TextValue(name), impl.NumberValue(n), selected)
			}
		}
		keepColumns().check(t, v, impl.TextValue(strings.Join(v.Columns, " ")), v)
	}
}

// The errors in the order of the chapter, where each of these calls has several of them.
func TestOrderOfTableErrors(t *testing.T) {
	text, number := impl.TextValue, impl.NumberValue
	missing, cycle, invalid := impl.ErrorValue(1), impl.ErrorValue(3), number(limit+1)
	full, wide := grid("a b c d; 1000000000 1 1 1"), counted("a b", 1, 12)
	for _, c := range []struct {
		f        valueFunction
		code     int
		operands []impl.Value
	}{
		{tableOf(), 1, []impl.Value{missing, cycle}}, {tableOf(), 3, []impl.Value{cycle, missing}}, {tableOf(), 4, []impl.Value{invalid, missing}}, {tableOf(), 1, []impl.Value{missing, invalid}},
		{tableOf(), 1, []impl.Value{number(1), missing}}, {tableOf(), 1, []impl.Value{text(""), missing}}, {tableOf(), 4, []impl.Value{number(1), numbers()}}, {tableOf(), 4, []impl.Value{text(""), number(1)}},
		{tableOf(), 4, []impl.Value{text("sum"), full}}, {tableOf(), 7, []impl.Value{text("sum"), numbers(1)}}, {tableOf(), 4, []impl.Value{text("sum"), numbers(limit + 1)}},
		{tableOf(), 4, []impl.Value{text("sum"), listOf(missing)}}, {tableOf(), 4, []impl.Value{text("a\n"), missing}},
		{columnOf(), 1, []impl.Value{missing, cycle}}, {columnOf(), 1, []impl.Value{number(1), missing}}, {columnOf(), 4, []impl.Value{text("z"), number(1)}}, {columnOf(), 4, []impl.Value{number(1), wide}},
		{columnOf(), 7, []impl.Value{text("z"), wide}}, {columnOf(), 6, []impl.Value{text("a"), wide}}, {columnOf(), 4, []impl.Value{text("a"), counted("a", 1, 13)}},
		{keepColumns(), 1, []impl.Value{text("a a"), missing}}, {keepColumns(), 4, []impl.Value{text("a a"), numbers()}}, {keepColumns(), 4, []impl.Value{numbers(), wide}},
		{whereEqual(), 1, []impl.Value{text("z"), missing, cycle}}, {whereEqual(), 3, []impl.Value{text("z"), text("1"), cycle}}, {whereEqual(), 4, []impl.Value{text("z"), text("1"), wide}},
		{whereEqual(), 4, []impl.Value{text("z"), invalid, cycle}}, {whereEqual(), 4, []impl.Value{text("z"), number(1), text("a")}}, {whereEqual(), 1, []impl.Value{missing, invalid, cycle}},
		{addColumn(), 3, []impl.Value{text("a"), text("z"), cycle, missing}}, {addColumn(), 4, []impl.Value{text("a"), text("z"), text("z"), numbers()}}, {addColumn(), 4, []impl.Value{text("sum"), text("z"), number(1), full}},
		{addColumn(), 1, []impl.Value{number(1), text("z"), text("z"), missing}}, {addColumn(), 7, []impl.Value{text("sum"), text("a"), text("b"), full}}, {addColumn(), 7, []impl.Value{text("s"), text("a"), text("z"), full}},
		{addColumn(), 6, []impl.Value{text("s"), text("a"), text("b"), full}}, {addColumn(), 5, []impl.Value{text("s"), text("a"), text("b"), grid("a b c; 1000000000 1 1")}},
		{groupSum(), 1, []impl.Value{text("a"), text("a"), missing}}, {groupSum(), 4, []impl.Value{text("a"), text("a"), text("a")}}, {groupSum(), 4, []impl.Value{text("z"), number(1), full}},
		{groupSum(), 7, []impl.Value{text("a"), text("a"), grid("a b; 1000000000 1; 1000000000 1")}}, {groupSum(), 7, []impl.Value{text("b"), text("z"), grid("a b; 1000000000 1; 1 1")}},
		{joinOn(), 3, []impl.Value{text("z"), full, cycle}}, {joinOn(), 1, []impl.Value{text("z"), missing, cycle}}, {joinOn(), 1, []impl.Value{number(1), missing, cycle}}, {joinOn(), 4, []impl.Value{text("z"), full, numbers()}},
		{joinOn(), 4, []impl.Value{text("z"), numbers(), full}}, {joinOn(), 4, []impl.Value{number(1), full, full}}, {joinOn(), 7, []impl.Value{text("a"), full, full}}, {joinOn(), 6, []impl.Value{text("a"), full, grid("a e")}},
		{joinOn(), 4, []impl.Value{text("a"), counted("a", 1, 13), missing}}, {joinOn(), 1, []impl.Value{missing, counted("a", 1, 13), full}},
	} {
		c.f.check(t, failure(c.code), c.operands...)
	}
}

// kindSamples has a valid value of each kind, the table with all columns that the others mention.
func kindSamples() []impl.Value {
	return []impl.Value{1: impl.NumberValue(1), 2: impl.TextValue("a"), 3: numbers(), 4: impl.StreamValue(1, 1), 5: grid("a b; 1 2 @1.0")}
}

func TestTableFunctionsOfOtherKinds(t *testing.T) {
	samples := kindSamples()
	for _, f := range everyTableFunction() {
		var kinds [4]int
		var try func(place int)
		try = func(place int) {
			if place < f.count {
				for kinds[place] = 1; kinds[place] <= 5; kinds[place]++ {
					try(place + 1)
				}
				return
			}
			var list []impl.Value
			for _, kind := range kinds[:place] {
				list = append(list, samples[kind])
			}
			if slices.Equal(kinds[:place], f.kinds) {
				f.checkMeaning(t, list...)
			} else {
				f.check(t, failure(4), list...)
			}
		}
		try(0)
	}
}

// goodOperands returns operands with which the function does not fail, if its first ones are the names of columns.
func (f tableFunction) goodOperands() []impl.Value {
	var list []impl.Value
	names := []string{"a", "b", "b"}
	if f.name == "AddColumn" {
		names = []string{"s", "a", "b"}
	}
	tables := []impl.Value{grid("a; 1 @1.0; 2 @1.1"), grid("a b; 1 2 @1.0; 1 3 @2.0")}
	if f.name != "JoinOn" {
		tables = tables[1:]
	}
	for i, kind := range f.kinds {
		switch kind {
		case 1:
			list = append(list, impl.NumberValue(1))
		case 2:
			list = append(list, impl.TextValue(names[i]))
		case 3:
			list = append(list, listOf(numbers(1), numbers(2)))
		case 5:
			list = append(list, tables[0])
			tables = tables[1:]
		}
	}
	return list
}

func TestTableFunctionsOfGoodOperands(t *testing.T) {
	for _, f := range everyTableFunction() {
		f.checkMeaning(t, f.goodOperands()...)
		if got := f.call(f.goodOperands()...); got.Kind == 6 {
			t.Errorf("%s of %+v = %+v", f.name, f.goodOperands(), got)
		}
	}
}

func TestTableFunctionsOfOneFailingOperand(t *testing.T) {
	for _, f := range everyTableFunction() {
		for i := range f.kinds {
			for _, bad := range failings() {
				list := f.goodOperands()
				list[i] = bad.v
				f.check(t, failure(bad.code), list...)
				// The others are of another kind.
				for j := range list {
					if j != i {
						list[j] = impl.StreamValue(1, 1)
					}
				}
				f.check(t, failure(bad.code), list...)
			}
		}
	}
}

func TestTableFunctionsOfSeveralFailingOperands(t *testing.T) {
	bad := failings()
	for _, f := range everyTableFunction() {
		for i := range f.kinds {
			for j := range i {
				for _, first := range bad {
					for k := 0; k < len(bad); k += 5 {
						list := f.goodOperands()
						list[j], list[i] = first.v, bad[k].v
						f.check(t, failure(first.code), list...)
						list[j], list[i] = bad[k].v, first.v
						f.check(t, failure(bad[k].code), list...)
					}
				}
			}
		}
		for code := 1; code <= 4; code++ {
			var list []impl.Value
			for i := range f.kinds {
				list = append(list, impl.ErrorValue(1+(code+i)%4))
			}
			f.check(t, failure(1+code%4), list...)
		}
	}
}

func TestTableFunctionsRandomValues(t *testing.T) {
	random := rand.New(rand.NewSource(70))
	bad := failings()
	for range 20000 {
		for _, f := range everyTableFunction() {
			list, failed := f.goodOperands(), 0
			for i := range list {
				code := 0
				switch random.Intn(12) {
				case 0:
					b := bad[random.Intn(len(bad))]
					list[i], code = b.v, b.code
				case 1, 2:
					list[i] = randomValue(random, 0)
					code = codeOf(list[i])
				case 3, 4:
					list[i] = impl.TextValue([]string{"a", "b", "z", "b a", "a b", ""}[random.Intn(6)])
				case 5, 6:
					list[i] = randomTable(random)
				}
				if failed == 0 {
					failed = code
				}
			}
			if failed != 0 {
				f.check(t, failure(failed), list...)
			} else {
				f.checkMeaning(t, list...)
			}
		}
	}
}

// Promise 48: every function is total and does not modify its arguments.

func TestTableFunctionsOfLargeValues(t *testing.T) {
	for _, v := range largeValues() {
		for _, f := range everyTableFunction() {
			for i := range f.kinds {
				list := f.goodOperands()
				list[i] = v
				f.checkLarge(t, 4, list...)
				for j := range list {
					code := 4
					list = f.goodOperands()
					if list[i], list[j] = v, impl.ErrorValue(2); j < i {
						code = 2
					}
					if j != i {
						f.checkLarge(t, code, list...)
					}
				}
			}
			f.checkLarge(t, 4, slices.Repeat([]impl.Value{v}, f.count)...)
		}
	}
	checkColumnIndex(t, impl.Value{Columns: append(slices.Repeat([]string{"b"}, 300000), "a")}, "a", 300000)
}

// tableCalls are calls of every function for which it has something to do, and failing ones.
func tableCalls() []valueCall {
	text, number := impl.TextValue, impl.NumberValue
	v := grid("a b c; 1 2 3 @1.0 @2.5; 4 5 6; 1 2 9 @1.0 @2.5 @3.0; 7 2 3 @8.8")
	other := grid("a d; 1 5 @1.0 @2.7; 7 6; 1 7 @9.9")
	one := grid("a; 1 @1.0; 2 @1.1; 1 @1.2")
	row := numbers(5, 6)
	calls := []valueCall{
		{tableOf(), []impl.Value{text("a b"), listOf(row, row, numbers(7, 8))}}, {tableOf(), []impl.Value{text("a"), numbers()}}, {tableOf(), []impl.Value{text("a b"), listOf(row, numbers(1))}},
		{tableOf(), []impl.Value{text("a b a"), numbers()}}, {countRows(), []impl.Value{v}}, {countRows(), []impl.Value{row}},
		{columnOf(), []impl.Value{text("b"), v}}, {columnOf(), []impl.Value{text("a"), grid("a")}}, {columnOf(), []impl.Value{text("z"), v}}, {columnOf(), []impl.Value{text("a"), counted("a", 1, 9)}},
		{groupSum(), []impl.Value{text("a"), text("b"), v}}, {groupSum(), []impl.Value{text("c"), text("a"), v}}, {groupSum(), []impl.Value{text("a"), text("a"), v}}, {groupSum(), []impl.Value{text("a"), text("b"), grid("a b")}},
		{groupSum(), []impl.Value{text("a"), text("b"), grid("a b; 1 1000000000 @1.0; 1 1")}},
		{joinOn(), []impl.Value{text("a"), v, other}}, {joinOn(), []impl.Value{text("a"), other, v}}, {joinOn(), []impl.Value{text("a"), one, one}}, {joinOn(), []impl.Value{text("a"), v, one}}, {joinOn(), []impl.Value{text("a"), one, v}},
		{joinOn(), []impl.Value{text("a"), v, v}}, {joinOn(), []impl.Value{text("a"), v, grid("a e f; 1 1 1")}}, {joinOn(), []impl.Value{text("a"), grid("a"), v}},
		{addColumn(), []impl.Value{text("s"), text("a"), text("b"), v}}, {addColumn(), []impl.Value{text("s"), text("b"), text("b"), v}}, {addColumn(), []impl.Value{text("a"), text("b"), text("b"), v}},
		{addColumn(), []impl.Value{text("s"), text("a"), text("a"), grid("a")}}, {addColumn(), []impl.Value{text("s"), text("a"), text("a"), grid("a b c d; 1 2 3 4")}}, {addColumn(), []impl.Value{text("s"), text("a"), text("a"), grid("a; 1; 1000000000")}},
	}
	for _, names := range []string{"a", "c", "a b c", "c b a", "b a", "a a", "z", ""} {
		calls = append(calls, valueCall{keepColumns(), []impl.Value{text(names), v}}, valueCall{keepColumns(), []impl.Value{text(names), grid("a b c")}})
	}
	for _, n := range []int{1, 2, 4, 9, -1} {
		for _, name := range []string{"a", "b", "z"} {
			calls = append(calls, valueCall{whereEqual(), []impl.Value{text(name), number(n), v}}, valueCall{whereEqual(), []impl.Value{text(name), number(n), grid("a b")}})
		}
	}
	for _, f := range everyTableFunction() {
		for i := range f.kinds {
			for _, bad := range append(failings()[:12], failing{v: fullValue()}, failing{v: v}) {
				list := f.goodOperands()
				list[i] = bad.v
				calls = append(calls, valueCall{f.valueFunction, list})
			}
		}
	}
	return calls
}

func TestTableFunctionsKeepTheirArguments(t *testing.T) {
	for _, c := range tableCalls() {
		c.checkKeepsOperands(t)
	}
	for _, sample := range append(append(validValues(), invalidValues()...), fullValue()) {
		v := spacious(sample)
		want := whole(v)
		impl.ColumnIndex(v, "a")
		impl.ColumnIndex(v, "spare")
		if !reflect.DeepEqual(whole(v), want) {
			t.Errorf("ColumnIndex changed %+v to %+v", want, whole(v))
		}
	}
	// What is behind the columns is not one of them.
	checkColumnIndex(t, spacious(grid("a c")), "spare", -1)
}

func TestTableResultsAreIndependent(t *testing.T) {
	for _, c := range tableCalls() {
		c.checkIndependent(t)
	}
}

// The same memory in several places of the operands: no two slices of the result are the same memory.
func TestTableFunctionsOfSharedMemory(t *testing.T) {
	cells, from := []int{1, 5}, []impl.Origin{{Cell: 1, Row: 2}, {Cell: 3, Row: 4}}
	v := impl.Value{Kind: impl.ValueTable, Columns: []string{"a", "b"}, Rows: slices.Repeat([]impl.Row{{Cells: cells, From: from}}, 3)}
	one := impl.Value{Kind: impl.ValueTable, Columns: []string{"a"}, Rows: slices.Repeat([]impl.Row{{Cells: cells[:1], From: from[:1]}}, 3)}
	row := numbers(1, 5)
	text := impl.TextValue
	for _, c := range []valueCall{
		{whereEqual(), []impl.Value{text("a"), impl.NumberValue(1), v}}, {keepColumns(), []impl.Value{text("a b"), v}}, {keepColumns(), []impl.Value{text("b"), v}},
		{addColumn(), []impl.Value{text("s"), text("a"), text("b"), v}}, {groupSum(), []impl.Value{text("a"), text("b"), v}}, {columnOf(), []impl.Value{text("a"), v}},
		{joinOn(), []impl.Value{text("a"), one, one}}, {joinOn(), []impl.Value{text("a"), v, one}}, {joinOn(), []impl.Value{text("a"), one, v}}, {tableOf(), []impl.Value{text("a b"), listOf(row, row, row)}},
	} {
		c.f.checkMeaning(t, c.operands...)
		for i := range spoilers(c.result()) {
			checkOneSpoiled(t, c.result(), i)
		}
		want := normalEach(c.operands, normal)
		spoil(c.result())
		if got := normalEach(c.operands, normal); !reflect.DeepEqual(got, want) {
			t.Errorf("the result of %s shares memory with its operands %+v", c.f.name, want)
		}
	}
}
