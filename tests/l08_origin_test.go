package tests

import (
	"math"
	"math/rand"
	"reflect"
	"slices"
	"strings"
	"testing"

	"loop.example/g00510/impl"
)

// Promise 8: every row of a result has the origins of the rows from which it was computed.

// origins returns the origins that are written as CELL.ROW, separated by single spaces.
func origins(s string) []impl.Origin {
	var list []impl.Origin
	for _, word := range strings.Fields(s) {
		cell, row, _ := strings.Cut(word, ".")
		list = append(list, impl.Origin{Cell: numberIn(cell), Row: numberIn(row)})
	}
	return list
}

// rowsFrom returns a table with the column a and a row for each list of origins, the rows with the cells 1, 2, 3 and so on.
func rowsFrom(lists ...string) impl.Value {
	v := tableValue([]string{"a"})
	for i, s := range lists {
		v.Rows = append(v.Rows, impl.Row{Cells: []int{i + 1}, From: origins(s)})
	}
	return v
}

func checkOrigins(t *testing.T, name string, got, want []impl.Origin) {
	t.Helper()
	if !slices.Equal(got, want) {
		t.Errorf("%s = %v, want %v", name, got, want)
	}
}

// checkUnion checks the union in both orders of the arguments.
func checkUnion(t *testing.T, a, b, want []impl.Origin) {
	t.Helper()
	if got := impl.UnionOrigins(a, b); !slices.Equal(got, want) {
		t.Errorf("UnionOrigins(%v, %v) = %v, want %v", a, b, got, want)
	}
	if got := impl.UnionOrigins(b, a); !slices.Equal(got, want) {
		t.Errorf("UnionOrigins(%v, %v) = %v, want %v", b, a, got, want)
	}
}

func TestUnionOriginsKnown(t *testing.T) {
	for _, c := range []struct{ a, b, want string }{
		{"", "", ""}, {"1.2", "", "1.2"}, {"1.2", "1.2", "1.2"}, {"1.2", "1.3", "1.2 1.3"}, {"2.1", "1.1", "1.1 2.1"},
		// Not ascending, by the cells and by the rows.
		{"2.1 1.5", "1.5", "1.5 2.1"}, {"3.0 2.0 1.0", "", "1.0 2.0 3.0"}, {"1.9 1.10 1.2", "1.3", "1.2 1.3 1.9 1.10"}, {"3.0 1.0", "4.0 2.0", "1.0 2.0 3.0 4.0"},
		{"1.3 1.2 1.1", "1.2 1.1 1.0", "1.0 1.1 1.2 1.3"}, {"9.0 10.0 2.0", "", "2.0 9.0 10.0"},
		// Several times in one list, side by side and apart, and in both.
		{"1.1 1.1", "", "1.1"}, {"1.1 2.2 1.1", "", "1.1 2.2"}, {"1.1 1.1 1.1", "1.1 1.1", "1.1"}, {"1.1 2.2 1.1", "2.2 1.1 2.2", "1.1 2.2"},
		{"1.1 2.2", "2.2 3.3", "1.1 2.2 3.3"}, {"3.3 1.1 3.3", "2.2", "1.1 2.2 3.3"},
		// Equal cells and different rows, and the other way round; the cell comes first.
		{"5.1 5.3", "5.2 5.0", "5.0 5.1 5.2 5.3"}, {"1.5 3.5", "2.5 0.5", "0.5 1.5 2.5 3.5"}, {"1.2", "2.1", "1.2 2.1"}, {"2.0 1.9", "1.8 2.1", "1.8 1.9 2.0 2.1"}, {"1.12", "11.2", "1.12 11.2"},
		// Negative numbers are smaller, whatever their size.
		{"-1.0 1.0", "0.0", "-1.0 0.0 1.0"}, {"-1.-2 -2.-1", "-1.-1 -1.-2", "-2.-1 -1.-2 -1.-1"}, {"0.-1 0.1", "0.0 -1.5", "-1.5 0.-1 0.0 0.1"}, {"1.1 -1.1", "1.-1 -1.-1", "-1.-1 -1.1 1.-1 1.1"},
	} {
		checkUnion(t, origins(c.a), origins(c.b), origins(c.want))
	}
	for _, none := range [][]impl.Origin{nil, {}} {
		checkUnion(t, none, nil, nil)
		checkUnion(t, none, []impl.Origin{}, nil)
		checkUnion(t, none, origins("2.0 1.0 2.0"), origins("1.0 2.0"))
	}
}

// The difference of these numbers is none that an integer can be.
func TestUnionOriginsOfExtremeNumbers(t *testing.T) {
	edges := []int{math.MinInt, math.MinInt + 1, -1, 0, 1, math.MaxInt - 1, math.MaxInt}
	var all []impl.Origin
	for _, cell := range edges {
		for _, row := range edges {
			all = append(all, impl.Origin{Cell: cell, Row: row})
		}
	}
	for i, a := range all {
		for _, b := range all[i+1:] {
			checkUnion(t, []impl.Origin{a}, []impl.Origin{b}, []impl.Origin{a, b})
			checkUnion(t, []impl.Origin{b, a}, nil, []impl.Origin{a, b})
		}
	}
	random := rand.New(rand.NewSource(8))
	for range 100 {
		mixed := slices.Clone(all)
		random.Shuffle(len(mixed), func(i, j int) { mixed[i], mixed[j] = mixed[j], mixed[i] })
		cut := random.Intn(len(mixed))
		checkUnion(t, mixed[:cut], mixed[cut:], all)
		checkUnion(t, mixed, mixed[cut:], all)
	}
}

// shortOriginLists has all lists of at most three of four origins.
func shortOriginLists() [][]impl.Origin {
	var lists [][]impl.Origin
	for size := range 4 {
		for _, words := range listsOver([]string{"1.1", "1.0", "0.1", "-1.1"}, size) {
			lists = append(lists, origins(strings.Join(words, " ")))
		}
	}
	return lists
}

func TestUnionOriginsAllShortLists(t *testing.T) {
	lists := shortOriginLists()
	for _, a := range lists {
		for _, b := range lists {
			checkUnion(t, a, b, ascending(slices.Concat(b, a)))
		}
		checkUnion(t, a, a, ascending(a))
		union := impl.UnionOrigins(a, nil)
		checkUnion(t, union, a, union)
	}
}

func TestUnionOriginsOfThree(t *testing.T) {
	lists := shortOriginLists()
	for i, a := range lists {
		for j := i % 3; j < len(lists); j += 3 {
			for k := j % 5; k < len(lists); k += 5 {
				b, c := lists[j], lists[k]
				want := ascending(slices.Concat(c, a, b))
				checkOrigins(t, "the union of two lists and a third one", impl.UnionOrigins(impl.UnionOrigins(a, b), c), want)
				checkOrigins(t, "the union of a list and two others", impl.UnionOrigins(a, impl.UnionOrigins(b, c)), want)
			}
		}
	}
}

func TestUnionOriginsOfLongLists(t *testing.T) {
	const size = 200000
	random := rand.New(rand.NewSource(80))
	var all []impl.Origin
	for i := range size {
		all = append(all, impl.Origin{Cell: i/500 - 100, Row: i%500 - 250})
	}
	mixed := slices.Concat(all, all)
	random.Shuffle(len(mixed), func(i, j int) { mixed[i], mixed[j] = mixed[j], mixed[i] })
	backwards := slices.Clone(all)
	slices.Reverse(backwards)
	for _, c := range [][2][]impl.Origin{{all, all}, {backwards, nil}, {backwards, all}, {mixed, nil}, {mixed[:size], mixed[size:]}, {all[size/2:], all[:size/2]}} {
		if !slices.Equal(impl.UnionOrigins(c[0], c[1]), all) || !slices.Equal(impl.UnionOrigins(c[1], c[0]), all) {
			t.Error("the union of long lists")
		}
	}
	if got := impl.UnionOrigins(slices.Repeat(all[:1], size), slices.Repeat(all[1:2], size)); !slices.Equal(got, all[:2]) {
		t.Error("the union of two origins that are repeated very often")
	}
}

// sourceFunction is SourceTable of a cell.
func sourceFunction(cell int) valueFunction {
	call := func(t impl.Value) impl.Value { return impl.SourceTable(cell, t) }
	meaning := func(t impl.Value) impl.Value {
		if t.Kind != 5 || cell < 0 {
			return failure(4)
		}
		v := normal(t)
		for i := range v.Rows {
			v.Rows[i].From = []impl.Origin{{Cell: cell, Row: i}}
		}
		return v
	}
	return valueFunction{"SourceTable", 1, ofOne(call), ofOne(meaning)}
}

func TestSourceTableKnown(t *testing.T) {
	plain := grid("a b; 1 2; 1 3; 2 5")
	sourceFunction(4).check(t, grid("a b; 1 2 @4.0; 1 3 @4.1; 2 5 @4.2"), plain)
	sourceFunction(0).check(t, grid("a b; 1 2 @0.0; 1 3 @0.1; 2 5 @0.2"), plain)
	sourceFunction(1000).check(t, grid("x; 7 @1000.0; 7 @1000.1"), grid("x; 7; 7"))
	extreme := impl.Row{Cells: []int{limit}, From: []impl.Origin{{Cell: math.MaxInt, Row: 0}}}
	sourceFunction(math.MaxInt).check(t, impl.Value{Kind: 5, Columns: []string{"a"}, Rows: []impl.Row{extreme}}, grid("a; 1000000000"))
	for _, cell := range []int{-1, -2, -4, math.MinInt} {
		for _, v := range []impl.Value{plain, grid("a"), grid("a; 1 @4.0")} {
			sourceFunction(cell).check(t, failure(4), v)
		}
	}
}

// The origins that the rows had before are gone, however many they were.
func TestSourceTableOfRowsWithOrigins(t *testing.T) {
	v := grid("a b; 1 2 @0.0; 1 3 @4.0 @7.7; 2 5; 1 2 @4.3; 2 2 @1.0 @1.1 @4.4 @4.9")
	sourceFunction(4).check(t, grid("a b; 1 2 @4.0; 1 3 @4.1; 2 5 @4.2; 1 2 @4.3; 2 2 @4.4"), v)
	sourceFunction(0).check(t, grid("a b; 1 2 @0.0; 1 3 @0.1; 2 5 @0.2; 1 2 @0.3; 2 2 @0.4"), v)
	sourceFunction(5).check(t, impl.SourceTable(5, v), impl.SourceTable(6, impl.SourceTable(5, v)))
	sourceFunction(-1).check(t, failure(4), impl.SourceTable(5, v))
}

func TestSourceTableOfEveryNumberOfRows(t *testing.T) {
	for _, columns := range []string{"a", "d c b a"} {
		for size := range 13 {
			v := counted(columns, 8, size)
			sourceFunction(8).check(t, v, withoutOrigins(v))
			sourceFunction(8).check(t, v, counted(columns, 3, size))
			if got := impl.FormatValue(impl.SourceTable(3, v)); got != impl.FormatValue(v) {
				t.Errorf("SourceTable shows %s, want %s", got, impl.FormatValue(v))
			}
		}
		for _, size := range []int{13, 14, 24, 100} {
			sourceFunction(8).check(t, failure(4), counted(columns, 8, size))
		}
	}
}

// No operand error: a value that is no table gives ErrorType, also if it is an error itself.
func TestSourceTableOfOtherValues(t *testing.T) {
	for _, cell := range []int{0, 1, 4, -1, math.MaxInt} {
		for _, v := range append(validValues(), kindSamples()[1:]...) {
			sourceFunction(cell).checkMeaning(t, v)
		}
		for _, v := range append(invalidValues(), fullValue()) {
			sourceFunction(cell).check(t, failure(4), v)
		}
		for code := -1; code <= 10; code++ {
			sourceFunction(cell).check(t, failure(4), impl.ErrorValue(code))
		}
		for _, v := range largeValues() {
			sourceFunction(cell).checkLarge(t, 4, v)
		}
	}
}

// invalidTables have something wrong in a table, and origins.
func invalidTables() []impl.Value {
	all := []impl.Value{
		rowsFrom("1.0", "2.0 1.0"), rowsFrom("1.0 1.0"), rowsFrom("1.1 1.0", "3.0"), rowsFrom("3.0", "-1.0"), rowsFrom("1.-1"), rowsFrom("1.0 2.0 1.0"),
		grid("a a; 1 2 @1.0"), grid("sum; 1 @1.0"), grid("A; 1 @1.0"), grid("a b; 1 @1.0"), grid("a; 1 2 @1.0"), grid("a; 1000000001 @1.0"), grid("a b c d e; 1 2 3 4 5 @1.0"),
		counted("a", 1, 13), {Kind: 5, Rows: []impl.Row{{From: origins("1.0")}}}, {Kind: 5},
	}
	for _, kind := range []int{0, 1, 2, 3, 4, 6, 7, -5} {
		v := grid("a; 1 @1.0; 2 @2.0 @3.0")
		v.Kind = kind
		all = append(all, v)
	}
	for _, s := range strays() {
		v := grid("a; 1 @1.0; 2 @2.0 @3.0")
		if s.field != "Columns" && s.field != "Rows" {
			s.set(&v)
			all = append(all, v)
		}
	}
	return all
}

func TestSourceTableOfInvalidTables(t *testing.T) {
	for _, v := range invalidTables() {
		if impl.IsValidValue(v) {
			t.Errorf("%+v is valid", v)
		}
		sourceFunction(1).check(t, failure(4), v)
	}
}

// originsMeaning is the union of the origins of the rows, whatever the value is.
func originsMeaning(v impl.Value) []impl.Origin {
	var all []impl.Origin
	for _, r := range v.Rows {
		all = slices.Concat(r.From, all)
	}
	return ascending(all)
}

func checkOriginsOf(t *testing.T, v impl.Value, want []impl.Origin) {
	t.Helper()
	if got := impl.OriginsOf(v); !slices.Equal(got, want) {
		t.Errorf("OriginsOf(%+v) = %v, want %v", v, got, want)
	}
}

func TestOriginsOfKnown(t *testing.T) {
	for _, c := range []struct {
		v    impl.Value
		want string
	}{
		{rowsFrom(), ""}, {rowsFrom(""), ""}, {rowsFrom("", ""), ""}, {rowsFrom("1.2"), "1.2"}, {rowsFrom("1.2", "", "1.1"), "1.1 1.2"},
		{rowsFrom("2.0 3.1", "1.9", "2.0 2.1", "3.1"), "1.9 2.0 2.1 3.1"}, {rowsFrom("1.0 2.0", "1.0 2.0", "1.0 2.0"), "1.0 2.0"}, {rowsFrom("5.0", "4.0", "3.0"), "3.0 4.0 5.0"},
		{rowsFrom("0.0", "0.1", "1.0"), "0.0 0.1 1.0"},
		// Rows whose origins are not ascending, repeated or negative.
		{rowsFrom("3.0 2.0 1.0"), "1.0 2.0 3.0"}, {rowsFrom("1.1 1.1"), "1.1"}, {rowsFrom("2.2 1.1 2.2", "1.1 0.0 1.1"), "0.0 1.1 2.2"}, {rowsFrom("1.0 -1.0", "1.-3 1.0"), "-1.0 1.-3 1.0"},
		// Values that are no tables.
		{impl.Value{}, ""}, {impl.NumberValue(3), ""}, {impl.TextValue("1.0"), ""}, {numbers(1, 2), ""}, {impl.StreamValue(1, 2), ""}, {impl.ErrorValue(4), ""},
		{impl.Value{Kind: impl.ValueNumber, N: 1, Rows: rowsFrom("2.0", "1.0").Rows}, "1.0 2.0"}, {impl.Value{Rows: rowsFrom("2.0 1.0").Rows}, "1.0 2.0"},
		// The tables in a list are not rows of it.
		{listOf(rowsFrom("1.0")), ""}, {impl.Value{Kind: impl.ValueTable, List: []impl.Value{rowsFrom("1.0")}, Rows: rowsFrom("2.0").Rows}, "2.0"},
	} {
		checkOriginsOf(t, c.v, origins(c.want))
	}
	checkOriginsOf(t, rowsFrom(slices.Repeat([]string{"9.9 1.1", "5.5 1.1"}, 20)...), origins("1.1 5.5 9.9"))
}

func TestOriginsOfSamples(t *testing.T) {
	for _, v := range slices.Concat(validValues(), invalidValues(), invalidTables(), []impl.Value{fullValue()}) {
		checkOriginsOf(t, v, originsMeaning(v))
	}
	for size := range 14 {
		v := counted("a b", 6, size)
		var want []impl.Origin
		for i := range size {
			want = append(want, impl.Origin{Cell: 6, Row: i})
		}
		checkOriginsOf(t, v, want)
	}
}

// restrictMeaning keeps the rows of a valid table none of whose origins is missing in keep.
func restrictMeaning(v impl.Value, keep []impl.Origin) impl.Value {
	v = normal(v)
	v.Rows = slices.DeleteFunc(v.Rows, func(r impl.Row) bool {
		return slices.ContainsFunc(r.From, func(o impl.Origin) bool { return !slices.Contains(keep, o) })
	})
	return v
}

func checkRestricted(t *testing.T, v impl.Value, keep []impl.Origin, want impl.Value) {
	t.Helper()
	if got := impl.RestrictTable(v, keep); !reflect.DeepEqual(normal(got), normal(want)) {
		t.Errorf("RestrictTable(%+v, %v) = %+v, want %+v", v, keep, got, want)
	}
}

func TestRestrictTableKnown(t *testing.T) {
	v := grid("a b; 1 2 @1.0; 3 4; 5 6 @1.0 @2.0; 7 8 @2.0 @2.1 @3.5; 3 4; 9 9 @1.1")
	for _, c := range []struct{ keep, want string }{
		{"", "a b; 3 4; 3 4"}, {"9.9", "a b; 3 4; 3 4"},
		{"1.0", "a b; 1 2 @1.0; 3 4; 3 4"}, {"2.0", "a b; 3 4; 3 4"}, {"1.1", "a b; 3 4; 3 4; 9 9 @1.1"}, {"1.2 0.1", "a b; 3 4; 3 4"},
		{"1.0 2.0", "a b; 1 2 @1.0; 3 4; 5 6 @1.0 @2.0; 3 4"},
		// All but one of the origins of a row.
		{"2.0 2.1", "a b; 3 4; 3 4"}, {"2.0 3.5", "a b; 3 4; 3 4"}, {"2.1 3.5", "a b; 3 4; 3 4"}, {"2.0 2.1 3.5", "a b; 3 4; 7 8 @2.0 @2.1 @3.5; 3 4"}, {"2.0 2.1 3.4 3.6", "a b; 3 4; 3 4"},
		{"1.0 1.1 2.0 2.1 3.5", "a b; 1 2 @1.0; 3 4; 5 6 @1.0 @2.0; 7 8 @2.0 @2.1 @3.5; 3 4; 9 9 @1.1"},
		// Not ascending, repeated, negative, and more than the table has.
		{"2.0 1.0", "a b; 1 2 @1.0; 3 4; 5 6 @1.0 @2.0; 3 4"}, {"3.5 2.1 2.0", "a b; 3 4; 7 8 @2.0 @2.1 @3.5; 3 4"}, {"1.1 1.1 1.1", "a b; 3 4; 3 4; 9 9 @1.1"},
		{"2.1 3.5 2.0 2.1 3.5", "a b; 3 4; 7 8 @2.0 @2.1 @3.5; 3 4"}, {"2.0 1.0 2.0", "a b; 1 2 @1.0; 3 4; 5 6 @1.0 @2.0; 3 4"}, {"2.0 -1.5 9.0 1.0 -1.-1 0.0", "a b; 1 2 @1.0; 3 4; 5 6 @1.0 @2.0; 3 4"},
		{"1.-1 -1.0", "a b; 3 4; 3 4"},
	} {
		checkRestricted(t, v, origins(c.keep), grid(c.want))
	}
	checkRestricted(t, v, nil, grid("a b; 3 4; 3 4"))
	checkRestricted(t, v, []impl.Origin{}, grid("a b; 3 4; 3 4"))
	checkRestricted(t, v, impl.OriginsOf(v), v)
}

func TestRestrictTableOfTables(t *testing.T) {
	for size := range 13 {
		v := counted("c a b", 2, size)
		checkRestricted(t, v, nil, grid("c a b"))
		checkRestricted(t, v, impl.OriginsOf(v), v)
		checkRestricted(t, withoutOrigins(v), nil, withoutOrigins(v))
		for i, r := range v.Rows {
			one := impl.Value{Kind: 5, Columns: v.Columns, Rows: []impl.Row{r}}
			checkRestricted(t, v, []impl.Origin{{Cell: 2, Row: i}}, one)
			checkRestricted(t, v, []impl.Origin{{Cell: 3, Row: i}, {Cell: i, Row: 2}}, restrictMeaning(v, []impl.Origin{{Cell: i, Row: 2}}))
		}
	}
}

// Values that are no valid tables stay as they are, with all their origins.
func TestRestrictTableOfOtherValues(t *testing.T) {
	keeps := [][]impl.Origin{nil, origins("1.0"), origins("2.0 1.0 1.0")}
	for _, v := range slices.Concat(validValues(), invalidValues(), invalidTables(), []impl.Value{fullValue()}) {
		for _, keep := range keeps {
			if v.Kind == 5 && impl.IsValidValue(v) {
				checkRestricted(t, v, keep, restrictMeaning(v, keep))
			} else {
				checkRestricted(t, v, keep, v)
			}
		}
	}
	checkRestricted(t, counted("a", 1, 13), nil, counted("a", 1, 13))
	checkRestricted(t, rowsFrom("2.0 1.0", "3.0"), origins("3.0"), rowsFrom("2.0 1.0", "3.0"))
	checkRestricted(t, impl.ErrorValue(3), nil, failure(3))
}

func TestRowsUsingKnown(t *testing.T) {
	v := rowsFrom("1.0 2.0", "", "2.0", "1.0 1.1 2.0", "3.0 5.5", "1.1")
	disorder := rowsFrom("3.0 1.0 2.0", "2.0 2.0", "1.1 1.0", "9.9 1.0 9.9", "-1.0 -2.5")
	for _, c := range []struct {
		v    impl.Value
		o    string
		want []int
	}{
		{v, "1.0", []int{0, 3}}, {v, "2.0", []int{0, 2, 3}}, {v, "1.1", []int{3, 5}}, {v, "3.0", []int{4}}, {v, "5.5", []int{4}},
		{v, "0.0", nil}, {v, "0.1", nil}, {v, "1.2", nil}, {v, "2.1", nil}, {v, "5.0", nil}, {v, "3.5", nil}, {v, "-1.0", nil}, {v, "1.-1", nil},
		// Rows whose origins are not ascending, and several times the same one.
		{disorder, "1.0", []int{0, 2, 3}}, {disorder, "2.0", []int{0, 1}}, {disorder, "3.0", []int{0}}, {disorder, "1.1", []int{2}}, {disorder, "9.9", []int{3}}, {disorder, "-1.0", []int{4}}, {disorder, "-2.5", []int{4}}, {disorder, "0.0", nil},
		{rowsFrom("1.0", "1.0", "1.0"), "1.0", []int{0, 1, 2}}, {rowsFrom(), "1.0", nil}, {rowsFrom("", ""), "0.0", nil}, {rowsFrom("0.0"), "0.0", []int{0}},
		{impl.Value{}, "0.0", nil}, {impl.NumberValue(1), "1.0", nil}, {numbers(1), "1.0", nil}, {listOf(rowsFrom("1.0")), "1.0", nil}, {impl.ErrorValue(1), "1.0", nil},
		{impl.Value{Kind: impl.ValueNumber, N: 1, Rows: v.Rows}, "2.0", []int{0, 2, 3}}, {impl.Value{Rows: v.Rows}, "1.1", []int{3, 5}},
	} {
		if got := impl.RowsUsing(c.v, origins(c.o)[0]); !slices.Equal(got, c.want) {
			t.Errorf("RowsUsing(%+v, %s) = %v, want %v", c.v, c.o, got, c.want)
		}
	}
	if got := impl.RowsUsing(rowsFrom(slices.Repeat([]string{"1.0", "2.0"}, 10)...), impl.Origin{Cell: 2}); !slices.Equal(got, []int{1, 3, 5, 7, 9, 11, 13, 15, 17, 19}) {
		t.Errorf("RowsUsing of many rows = %v", got)
	}
}

// A row is dropped exactly if it uses one of the origins that are not kept.
func checkComplement(t *testing.T, v impl.Value, o impl.Origin) {
	t.Helper()
	keep := slices.DeleteFunc(originsMeaning(v), func(p impl.Origin) bool { return p == o })
	using := impl.RowsUsing(v, o)
	var rest []impl.Row
	for i, r := range v.Rows {
		if slices.Contains(using, i) != slices.Contains(r.From, o) {
			t.Errorf("RowsUsing(%+v, %v) = %v", v, o, using)
		}
		if !slices.Contains(using, i) {
			rest = append(rest, r)
		}
	}
	if !slices.IsSorted(using) || len(rest)+len(using) != len(v.Rows) {
		t.Errorf("RowsUsing(%+v, %v) = %v", v, o, using)
	}
	checkRestricted(t, v, keep, impl.Value{Kind: 5, Columns: v.Columns, Rows: rest})
}

func TestOriginFunctionsRandomTables(t *testing.T) {
	random := rand.New(rand.NewSource(88))
	for range 5000 {
		v := randomTable(random)
		var keep []impl.Origin
		for range random.Intn(9) {
			keep = append(keep, impl.Origin{Cell: random.Intn(4) - 1, Row: random.Intn(3)})
		}
		sourceFunction(random.Intn(5)-1).checkMeaning(t, v)
		checkOriginsOf(t, v, originsMeaning(v))
		checkRestricted(t, v, keep, restrictMeaning(v, keep))
		checkComplement(t, v, impl.Origin{Cell: random.Intn(3), Row: random.Intn(3)})
		// What is kept of two lists is kept of the origins in both.
		checkRestricted(t, impl.RestrictTable(v, keep), keep[:len(keep)/2], impl.RestrictTable(v, keep[:len(keep)/2]))
	}
}

func TestChainKnown(t *testing.T) {
	text, number := impl.TextValue, impl.NumberValue
	orders := impl.SourceTable(1, grid("k n; 1 10; 2 20; 1 30; 3 40; 2 15"))
	prices := impl.SourceTable(2, grid("k m; 1 5; 2 5; 4 7"))
	joined := impl.JoinOn(text("k"), orders, prices)
	joinOn().check(t, grid("k n m; 1 10 5 @1.0 @2.0; 2 20 5 @1.1 @2.1; 1 30 5 @1.2 @2.0; 2 15 5 @1.4 @2.1"), text("k"), orders, prices)
	added := impl.AddColumn(text("s"), text("n"), text("m"), joined)
	addColumn().check(t, grid("k n m s; 1 10 5 15 @1.0 @2.0; 2 20 5 25 @1.1 @2.1; 1 30 5 35 @1.2 @2.0; 2 15 5 20 @1.4 @2.1"), text("s"), text("n"), text("m"), joined)
	groups := impl.GroupSum(text("k"), text("s"), added)
	groupSum().check(t, grid("k s; 1 50 @1.0 @1.2 @2.0; 2 45 @1.1 @1.4 @2.1"), text("k"), text("s"), added)
	groupSum().check(t, grid("m n; 5 75 @1.0 @1.1 @1.2 @1.4 @2.0 @2.1"), text("m"), text("n"), joined)
	kept := impl.KeepColumns(text("s k"), groups)
	keepColumns().check(t, grid("s k; 50 1 @1.0 @1.2 @2.0; 45 2 @1.1 @1.4 @2.1"), text("s k"), groups)
	whereEqual().check(t, grid("s k; 45 2 @1.1 @1.4 @2.1"), text("k"), number(2), kept)
	joinOn().check(t, grid("s k n; 50 1 10 @1.0 @1.2 @2.0; 50 1 30 @1.0 @1.2 @2.0; 45 2 20 @1.1 @1.4 @2.1; 45 2 15 @1.1 @1.4 @2.1"), text("k"), kept, orders)
	checkOriginsOf(t, groups, origins("1.0 1.1 1.2 1.4 2.0 2.1"))
	checkRestricted(t, groups, origins("2.0 1.2 1.0 2.1"), grid("k s; 1 50 @1.0 @1.2 @2.0"))
	if got := impl.RowsUsing(joined, impl.Origin{Cell: 2, Row: 0}); !slices.Equal(got, []int{0, 2}) {
		t.Errorf("RowsUsing of a joined table = %v", got)
	}
	// A source table of computed rows starts anew.
	sourceFunction(9).check(t, grid("k s; 1 50 @9.0; 2 45 @9.1"), groups)
}

// A chainStep is an operation on tables that were computed before: on table from, and for a join on table with as well.
type chainStep struct {
	f          valueFunction
	first      []impl.Value
	from, with int
}

func (s chainStep) operands(tables []impl.Value) []impl.Value {
	list := slices.Clone(s.first)
	if s.f.name == "JoinOn" {
		list = append(list, tables[s.with])
	}
	return append(list, tables[s.from])
}

// randomStep is an operation on the last of some tables.
func randomStep(random *rand.Rand, tables []impl.Value) chainStep {
	last, with := len(tables)-1, random.Intn(len(tables))
	name := func() impl.Value {
		columns := tables[last].Columns
		return impl.TextValue(columns[random.Intn(len(columns))])
	}
	switch random.Intn(6) {
	case 0:
		column := name()
		n := impl.NumberValue(random.Intn(3))
		if rows := namedRows(tables[last]); len(rows) > 0 {
			n.N = rows[random.Intn(len(rows))].cells[column.Text]
		}
		return chainStep{whereEqual(), []impl.Value{column, n}, last, 0}
	case 1:
		names := slices.Clone(tables[last].Columns)
		random.Shuffle(len(names), func(i, j int) { names[i], names[j] = names[j], names[i] })
		return chainStep{keepColumns(), []impl.Value{impl.TextValue(strings.Join(names[:1+random.Intn(len(names))], " "))}, last, 0}
	case 2:
		return chainStep{addColumn(), []impl.Value{impl.TextValue([]string{"v", "w", "x"}[random.Intn(3)]), name(), name()}, last, 0}
	case 3:
		return chainStep{groupSum(), []impl.Value{name(), name()}, last, 0}
	}
	return chainStep{joinOn(), []impl.Value{name()}, last, with}
}

// chainSources returns small tables without origins that have columns in common.
func chainSources(random *rand.Rand) []impl.Value {
	var sources []impl.Value
	for _, columns := range []string{"a b", "a c", "c d e", "a"} {
		v := tableValue(strings.Split(columns, " "))
		for range random.Intn(5) {
			var cells []int
			for range v.Columns {
				cells = append(cells, random.Intn(3))
			}
			v.Rows = append(v.Rows, impl.Row{Cells: cells})
		}
		sources = append(sources, v)
	}
	return sources
}

// A chain is a list of operations on source tables, each on the result of the one before.
type chain struct {
	sources []impl.Value
	steps   []chainStep
}

func randomChain(random *rand.Rand) chain {
	c := chain{sources: chainSources(random)}
	tables := c.run(nil)
	for range 30 {
		s := randomStep(random, tables)
		// An operation that fails would be the last one.
		if v := s.f.meaning(s.operands(tables)...); v.Kind == 5 && len(c.steps) < 5 {
			c.steps = append(c.steps, s)
			tables = append(tables, v)
		}
	}
	return c
}

// run returns the source tables and the results of the steps. With a list to keep, the source tables are restricted to it.
func (c chain) run(keep []impl.Origin) []impl.Value {
	var tables []impl.Value
	for i, v := range c.sources {
		source := impl.SourceTable(i+1, v)
		if keep != nil {
			source = impl.RestrictTable(source, keep)
		}
		tables = append(tables, source)
	}
	for _, s := range c.steps {
		tables = append(tables, s.f.call(s.operands(tables)...))
	}
	return tables
}

// wanted returns what run should return without a list to keep, found with none of the functions that are tested.
func (c chain) wanted() []impl.Value {
	var tables []impl.Value
	for i, v := range c.sources {
		tables = append(tables, sourceFunction(i+1).meaning(v))
	}
	for _, s := range c.steps {
		tables = append(tables, s.f.meaning(s.operands(tables)...))
	}
	return tables
}

// growsWithItsSources reports whether no operation follows a group: a group becomes another one with fewer rows.
func (c chain) growsWithItsSources() bool {
	last := max(0, len(c.steps)-1)
	return !slices.ContainsFunc(c.steps[:last], func(s chainStep) bool { return s.f.name == "GroupSum" })
}

func TestRowsOfChains(t *testing.T) {
	random := rand.New(rand.NewSource(888))
	joined, replayed := 0, 0
	for range 3000 {
		c := randomChain(random)
		got, want := c.run(nil), c.wanted()
		if !reflect.DeepEqual(normalEach(got, normal), normalEach(want, normal)) {
			t.Fatalf("a chain of %d operations has the tables %+v, want %+v", len(c.steps), got, want)
		}
		result := got[len(got)-1]
		for _, r := range result.Rows {
			if len(r.From) > 1 {
				joined++
			}
			if !c.growsWithItsSources() {
				continue
			}
			replayed++
			// The origins of a row are enough to compute it again.
			again := c.run(r.From)
			if !slices.ContainsFunc(again[len(again)-1].Rows, func(p impl.Row) bool { return reflect.DeepEqual(p, r) }) {
				t.Fatalf("the sources %+v of the row %+v alone give %+v", c.sources, r, again)
			}
		}
	}
	if joined < 1000 || replayed < 1000 {
		t.Errorf("%d rows with several origins and %d rows were replayed: too few to mean anything", joined, replayed)
	}
}

// Promise 48: every function is total and does not modify its arguments.

func TestOriginFunctionsOfLargeValues(t *testing.T) {
	const size = 300000
	from := slices.Repeat(origins("1.0 2.0 1.0"), size/3)
	long := impl.Value{Kind: 5, Columns: []string{"a"}, Rows: []impl.Row{{Cells: []int{1}, From: from}, {Cells: []int{2}, From: from[:1]}}}
	many := impl.Value{Kind: 5, Columns: []string{"a"}, Rows: slices.Repeat([]impl.Row{{Cells: []int{1}, From: origins("2.0 1.0")}}, size)}
	for _, v := range []impl.Value{long, many} {
		checkOrigins(t, "OriginsOf a large value", impl.OriginsOf(v), origins("1.0 2.0"))
		if !impl.EqualValue(impl.RestrictTable(v, nil), v) || impl.SourceTable(1, v).N != impl.ErrorType {
			t.Error("a large value")
		}
		if len(impl.RowsUsing(v, impl.Origin{Cell: 1})) != len(v.Rows) || len(impl.RowsUsing(v, impl.Origin{Cell: 3})) != 0 {
			t.Error("RowsUsing of a large value")
		}
	}
	checkRestricted(t, grid("a; 1 @1.0; 2 @3.0"), from, grid("a; 1 @1.0"))
	for _, v := range []impl.Value{nested(size), numbers(make([]int, size)...), impl.TextValue(strings.Repeat("x", size))} {
		if !impl.EqualValue(impl.RestrictTable(v, from), v) || len(impl.OriginsOf(v)) != 0 || len(impl.RowsUsing(v, impl.Origin{})) != 0 {
			t.Error("a large value without rows")
		}
	}
	// What a list contains is not looked at, even if it is itself.
	for _, v := range largeValues() {
		if len(impl.OriginsOf(v)) != 0 || len(impl.RowsUsing(v, impl.Origin{})) != 0 {
			t.Error("a large value without origins")
		}
	}
}

// originCalls are calls of the functions that return a value, with tables in which each of them has something to do, and with others.
func originCalls() []valueCall {
	keep := origins("2.0 1.0 3.3 1.0")
	restrict := func(v impl.Value) impl.Value { return impl.RestrictTable(v, keep) }
	var calls []valueCall
	for _, v := range slices.Concat(validValues(), invalidValues(), invalidTables(), []impl.Value{
		fullValue(), grid("a b; 1 2 @1.0; 3 4; 5 6 @1.0 @2.0; 7 8 @2.0 @2.1"), counted("a b", 1, 12), counted("a b", 1, 13), rowsFrom("3.3", "3.3 4.4", "2.0 1.0"), nested(6),
	}) {
		calls = append(calls, valueCall{sourceFunction(3), []impl.Value{v}}, valueCall{sourceFunction(-1), []impl.Value{v}}, valueCall{valueFunction{"RestrictTable", 1, ofOne(restrict), nil}, []impl.Value{v}})
	}
	return calls
}

func TestOriginFunctionsKeepTheirValues(t *testing.T) {
	for _, c := range originCalls() {
		c.checkKeepsOperands(t)
		v := c.spacious().operands[0]
		want := whole(v)
		clear(impl.OriginsOf(v))
		clear(impl.RowsUsing(v, impl.Origin{Cell: 1}))
		if !reflect.DeepEqual(whole(v), want) {
			t.Errorf("OriginsOf or RowsUsing changed %+v to %+v", want, whole(v))
		}
		if !slices.Equal(impl.OriginsOf(v), impl.OriginsOf(c.operands[0])) || len(impl.RowsUsing(v, impl.Origin{Cell: 77})) != 0 {
			t.Errorf("OriginsOf or RowsUsing of %+v looks at unused capacity", want)
		}
	}
}

func TestOriginResultsAreIndependent(t *testing.T) {
	for _, c := range originCalls() {
		c.checkIndependent(t)
		v := c.spacious().operands[0]
		first, second := impl.OriginsOf(v), impl.OriginsOf(v)
		rows, others := impl.RowsUsing(v, impl.Origin{Cell: 1}), impl.RowsUsing(v, impl.Origin{Cell: 1})
		want, wantRows := slices.Clone(first), slices.Clone(rows)
		spoil(v)
		clear(second[:cap(second)])
		for i := range others[:cap(others)] {
			others[:cap(others)][i] = -1
		}
		if !slices.Equal(first, want) || !slices.Equal(rows, wantRows) {
			t.Errorf("the result of OriginsOf or RowsUsing of %+v changed with its argument or another result", c.operands)
		}
	}
}

// The same memory in several rows of the argument: no two slices of the result are the same memory.
func TestOriginFunctionsOfSharedMemory(t *testing.T) {
	cells, from := []int{1, 5}, origins("1.2 3.4")
	shared := func() impl.Value {
		return impl.Value{Kind: 5, Columns: []string{"a", "b"}, Rows: slices.Repeat([]impl.Row{{Cells: cells, From: from}}, 3)}
	}
	invalid := shared()
	invalid.Kind = 3
	want := normal(shared())
	for i := range spoilers(shared()) {
		checkOneSpoiled(t, impl.SourceTable(4, shared()), i)
		checkOneSpoiled(t, impl.RestrictTable(shared(), from), i)
		checkOneSpoiled(t, impl.RestrictTable(invalid, from), i)
	}
	spoil(impl.SourceTable(4, shared()))
	spoil(impl.RestrictTable(shared(), from))
	spoil(impl.RestrictTable(invalid, from))
	if !reflect.DeepEqual(normal(shared()), want) {
		t.Errorf("a result shares memory with its argument %+v", want)
	}
}

// spaciousOrigins returns a copy with unused capacity with contents, and the copy extended by it.
func spaciousOrigins(list []impl.Origin) (used, all []impl.Origin) {
	all = slices.Concat(list, origins("1.0 0.0 77.0"))
	return all[:len(list)], all
}

func TestOriginFunctionsKeepTheirLists(t *testing.T) {
	lists := append(shortOriginLists(), origins("1.0 2.0 3.0"), origins("5.0 4.0 3.0 4.0 5.0 1.0"))
	for i, p := range lists {
		q := lists[(7*i+3)%len(lists)]
		a, allA := spaciousOrigins(p)
		b, allB := spaciousOrigins(q)
		wantA, wantB, want := slices.Clone(allA), slices.Clone(allB), ascending(slices.Concat(p, q))
		table := rowsFrom("1.0", "77.0", "1.1", "")
		first, second := impl.UnionOrigins(a, b), impl.UnionOrigins(a, b)
		checkOrigins(t, "UnionOrigins with unused capacity", first, want)
		checkRestricted(t, table, a, restrictMeaning(table, slices.Clone(p)))
		clear(second[:cap(second)])
		checkOrigins(t, "a union after another result was changed", first, want)
		checkOrigins(t, "the first argument", allA, wantA)
		checkOrigins(t, "the second argument", allB, wantB)
		kept := impl.RestrictTable(table, a)
		wantKept := normal(kept)
		clear(allA)
		clear(allB)
		checkOrigins(t, "a union after the arguments were changed", first, want)
		if !reflect.DeepEqual(normal(kept), wantKept) {
			t.Errorf("the result of RestrictTable changed with the list to keep %v", wantA)
		}
		spoil(kept)
		checkOrigins(t, "the list to keep after the result was changed", allA, make([]impl.Origin, len(allA)))
	}
	// One list as both arguments, and two lists that overlap.
	both, all := spaciousOrigins(origins("3.0 1.0 2.0 1.0"))
	spoiled := impl.UnionOrigins(both, both)
	clear(spoiled[:cap(spoiled)])
	checkOrigins(t, "the union of overlapping lists", impl.UnionOrigins(both[:3], both[1:]), origins("1.0 2.0 3.0"))
	checkOrigins(t, "the list", all, origins("3.0 1.0 2.0 1.0 1.0 0.0 77.0"))
}
