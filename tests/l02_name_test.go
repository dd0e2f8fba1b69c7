package tests

import (
	"regexp"
	"slices"
	"strconv"
	"strings"
	"testing"

	"loop.example/g00510/impl"
)

// Promise 2: sorted names are ascending and distinct, and valid names are not reserved.

func everyReservedWord() []string {
	return strings.Fields(`let in if then else for do
		len sum take skip range nth where keep add group join column rows clock chance file table`)
}

// oddStrings are the strings beside words that a function of names may get.
func oddStrings() []string {
	return []string{
		"", " ", "\x00", "\n", "1", "9a", "0", "a b", "a_b", "a-b", "a.b", "-a", "_", "_a", "a\n", "\na", "a\x00", "let ", " let", "let\n", "let\x00",
		"A", "Aa", "aA", "LET", "Let", "leT", "let in", "\x7f", "\x80", "\xff", "a\x80", "a\xff", "\xffa",
		"\u00e9", "a\u00e9", "\u0430", "\uff41", "a\u0661", "\U0001f600", "`", "{", "/", ":", "a`", "a{", "a/", "a:",
		strings.Repeat("a", 1000), strings.Repeat("1", 1000), strings.Repeat("let", 1000),
	}
}

func TestIsReservedEveryWord(t *testing.T) {
	for _, word := range everyReservedWord() {
		if !impl.IsReserved(word) {
			t.Errorf("IsReserved(%q) = false", word)
		}
	}
}

func TestIsReservedNothingElse(t *testing.T) {
	words := everyReservedWord()
	check := func(s string) {
		if got, want := impl.IsReserved(s), slices.Contains(words, s); got != want {
			t.Errorf("IsReserved(%q) = %v, want %v", s, got, want)
		}
	}
	for _, s := range oddStrings() {
		check(s)
	}
	for _, s := range stringsOver("letinfordosum", 3) {
		check(s)
	}
	for _, word := range words {
		for i := range len(word) {
			check(word[:i])
			check(word[i+1:])
			check(word[:i] + word[i+1:])
			check(word[:i] + strings.ToUpper(word[i:i+1]) + word[i+1:])
		}
		for b := range 256 {
			one := string([]byte{byte(b)})
			check(word + one)
			check(one + word)
			check(word[:len(word)-1] + one)
		}
		for _, other := range words {
			check(word + other)
		}
	}
}

var nameForm = regexp.MustCompile(`^[a-z][a-z0-9]{0,7}\z`)

func checkValidName(t *testing.T, s string) {
	t.Helper()
	want := nameForm.MatchString(s) && !slices.Contains(everyReservedWord(), s)
	if got := impl.IsValidName(s); got != want {
		t.Errorf("IsValidName(%q) = %v, want %v", s, got, want)
	}
}

func TestIsValidNameKnown(t *testing.T) {
	for _, s := range []string{"a", "z", "a0", "z9", "x1y2", "abcdefgh", "a1234567", "true", "false", "not", "and", "or", "letin", "lets", "inn", "le", "i", "sum1", "tables", "groupjoi"} {
		if !impl.IsValidName(s) {
			t.Errorf("IsValidName(%q) = false", s)
		}
	}
	for _, s := range oddStrings() {
		if impl.IsValidName(s) {
			t.Errorf("IsValidName(%q) = true", s)
		}
		checkValidName(t, s)
	}
}

func TestIsValidNameIsNotReserved(t *testing.T) {
	for _, word := range everyReservedWord() {
		if impl.IsValidName(word) {
			t.Errorf("IsValidName(%q) = true", word)
		}
		for i := range len(word) {
			checkValidName(t, word[:i])
			checkValidName(t, word[i:])
			checkValidName(t, word[:i]+"1"+word[i:])
		}
		checkValidName(t, word+"a")
		checkValidName(t, "a"+word)
		checkValidName(t, word+"1")
		checkValidName(t, "1"+word)
	}
}

func TestIsValidNameLength(t *testing.T) {
	if impl.MaxName != 8 {
		t.Errorf("MaxName = %d", impl.MaxName)
	}
	for size := range 100 {
		for _, s := range []string{"a", "z", "a1", "b9c"} {
			name := strings.Repeat(s, size)[:size]
			if got, want := impl.IsValidName(name), 1 <= size && size <= 8; got != want {
				t.Errorf("IsValidName(%q) of %d bytes = %v, want %v", name, size, got, want)
			}
		}
	}
	// Runes do not count: the letters of this name are three bytes each.
	checkValidName(t, "\uff41\uff42")
}

func TestIsValidNameEveryByte(t *testing.T) {
	for b := range 256 {
		one := string([]byte{byte(b)})
		for _, whole := range []string{"a", "ab", "abcdefgh", "z0123456", "abcdefghi"} {
			for i := range len(whole) {
				checkValidName(t, whole[:i]+one+whole[i+1:])
			}
		}
	}
}

func TestIsValidNameShortStrings(t *testing.T) {
	for _, s := range stringsOver("aifnoz09A_\xc3\xa9", 4) {
		checkValidName(t, s)
	}
}

// listsOver returns all lists of at most size elements of the alphabet.
func listsOver(alphabet []string, size int) [][]string {
	all := [][]string{nil}
	from := 0
	for range size {
		to := len(all)
		for _, list := range all[from:to] {
			for _, s := range alphabet {
				all = append(all, append(slices.Clone(list), s))
			}
		}
		from = to
	}
	return all
}

func TestIndexOfKnown(t *testing.T) {
	for _, c := range []struct {
		list []string
		s    string
		want int
	}{
		{nil, "", -1},
		{nil, "a", -1},
		{[]string{}, "a", -1},
		{[]string{""}, "", 0},
		{[]string{""}, "a", -1},
		{[]string{"a"}, "", -1},
		{[]string{"a", "b", "c"}, "a", 0},
		{[]string{"a", "b", "c"}, "c", 2},
		{[]string{"a", "b", "c"}, "d", -1},
		{[]string{"b", "a", "b", "a", "b"}, "a", 1},
		{[]string{"b", "a", "b"}, "b", 0},
		{[]string{"ab", "a"}, "a", 1},
		{[]string{"a", "ab"}, "ab", 1},
		{[]string{"A", "a"}, "a", 1},
		{[]string{"\xfe", "\xff"}, "\xff", 1},
		{[]string{"\xff"}, "\ufffd", -1},
	} {
		if got := impl.IndexOf(c.list, c.s); got != c.want {
			t.Errorf("IndexOf(%q, %q) = %d, want %d", c.list, c.s, got, c.want)
		}
	}
}

func TestIndexOfIsTheFirst(t *testing.T) {
	alphabet := []string{"", "a", "ab", "\xff"}
	for _, list := range listsOver(alphabet, 5) {
		for _, s := range append(alphabet, "c") {
			got := impl.IndexOf(list, s)
			if got < -1 || got >= len(list) {
				t.Fatalf("IndexOf(%q, %q) = %d", list, s, got)
			}
			before := list
			if got >= 0 {
				before = list[:got]
			}
			if got >= 0 && list[got] != s || slices.Contains(before, s) {
				t.Errorf("IndexOf(%q, %q) = %d", list, s, got)
			}
		}
	}
}

func TestAllDistinct(t *testing.T) {
	for _, c := range []struct {
		list []string
		want bool
	}{
		{nil, true},
		{[]string{}, true},
		{[]string{""}, true},
		{[]string{"", ""}, false},
		{[]string{"a", "b", "c"}, true},
		{[]string{"a", "a"}, false},
		{[]string{"a", "b", "a"}, false},
		{[]string{"c", "b", "a", "b"}, false},
		{[]string{"a", "A", "aa", "", "a "}, true},
		{[]string{"\xff", "\xfe", "\ufffd", "\x00"}, true},
	} {
		if got := impl.AllDistinct(c.list); got != c.want {
			t.Errorf("AllDistinct(%q) = %v, want %v", c.list, got, c.want)
		}
	}
	for _, list := range listsOver([]string{"", "a", "ab", "b", "\xff"}, 5) {
		want := true
		for i, s := range list {
			want = want && !slices.Contains(list[:i], s)
		}
		if got := impl.AllDistinct(list); got != want {
			t.Errorf("AllDistinct(%q) = %v, want %v", list, got, want)
		}
	}
}

func TestSortNamesKnown(t *testing.T) {
	for _, c := range []struct{ list, want []string }{
		{nil, nil},
		{[]string{}, nil},
		{[]string{""}, []string{""}},
		{[]string{"", ""}, []string{""}},
		{[]string{"a"}, []string{"a"}},
		{[]string{"b", "a", "b"}, []string{"a", "b"}},
		{[]string{"a", "a", "a"}, []string{"a"}},
		{[]string{"c", "b", "a"}, []string{"a", "b", "c"}},
		{[]string{"ab", "a", "", "abc", "b"}, []string{"", "a", "ab", "abc", "b"}},
		{[]string{"a10", "a9", "a1", "a"}, []string{"a", "a1", "a10", "a9"}},
		{[]string{"a", "Z", "z", "A", "0", "_"}, []string{"0", "A", "Z", "_", "a", "z"}},
		{[]string{"\x80", "\x7f", "\xff", "\x00", "z"}, []string{"\x00", "z", "\x7f", "\x80", "\xff"}},
		{[]string{"\xff", "\u00e9", "z", "\U0001f600", "\uffff"}, []string{"z", "\u00e9", "\uffff", "\U0001f600", "\xff"}},
		{[]string{"let", "toolongname", "1"}, []string{"1", "let", "toolongname"}},
	} {
		if got := impl.SortNames(c.list); !slices.Equal(got, c.want) {
			t.Errorf("SortNames(%q) = %q, want %q", c.list, got, c.want)
		}
	}
}

// bytesPrecede reports whether a precedes b byte by byte, a proper prefix ahead of the longer string.
func bytesPrecede(a, b string) bool {
	for i := range min(len(a), len(b)) {
		if a[i] != b[i] {
			return a[i] < b[i]
		}
	}
	return len(a) < len(b)
}

// checkSorted checks what determines the sorted names: they ascend, and are the strings of the list.
func checkSorted(t *testing.T, list []string) {
	t.Helper()
	got := impl.SortNames(list)
	for i := 1; i < len(got); i++ {
		if !bytesPrecede(got[i-1], got[i]) {
			t.Errorf("SortNames(%q) = %q: not ascending", list, got)
		}
	}
	in, out := map[string]bool{}, map[string]bool{}
	for _, s := range list {
		in[s] = true
	}
	for _, s := range got {
		out[s] = true
		if !in[s] {
			t.Errorf("SortNames(%q) = %q: %q is new", list, got, s)
		}
	}
	if len(in) != len(out) {
		t.Errorf("SortNames(%q) = %q: a string is missing", list, got)
	}
}

func TestSortNamesAscends(t *testing.T) {
	for _, list := range listsOver([]string{"", "a", "ab", "b", "a\x80", "\xff"}, 5) {
		checkSorted(t, list)
	}
	var every []string
	for b := range 256 {
		every = append(every, string([]byte{byte(255 - b)}), string([]byte{byte(b), 'a'}), string([]byte{byte(b)}))
	}
	checkSorted(t, every)
}

func TestSortNamesAgain(t *testing.T) {
	for _, list := range listsOver([]string{"", "a", "ab", "\xff"}, 5) {
		once := impl.SortNames(list)
		if twice := impl.SortNames(once); !slices.Equal(once, twice) {
			t.Errorf("SortNames(%q) = %q", once, twice)
		}
		if !impl.AllDistinct(once) {
			t.Errorf("SortNames(%q) = %q: not distinct", list, once)
		}
	}
}

func TestWithoutKnown(t *testing.T) {
	for _, c := range []struct{ list, remove, want []string }{
		{nil, nil, nil},
		{[]string{}, []string{"a"}, nil},
		{[]string{"a"}, nil, []string{"a"}},
		{[]string{"a"}, []string{}, []string{"a"}},
		{[]string{"a"}, []string{"a"}, nil},
		{[]string{"a", "b", "a", "c"}, []string{"a"}, []string{"b", "c"}},
		{[]string{"c", "a", "c", "b", "c"}, []string{"a"}, []string{"c", "c", "b", "c"}},
		{[]string{"b", "a", "b"}, []string{"c", "d"}, []string{"b", "a", "b"}},
		{[]string{"b", "a"}, []string{"a", "a", "b", "z"}, nil},
		{[]string{"", "a", ""}, []string{""}, []string{"a"}},
		{[]string{"", "a", ""}, []string{"a"}, []string{"", ""}},
		{[]string{"ab", "a", "A"}, []string{"a"}, []string{"ab", "A"}},
		{[]string{"\xff", "\xfe", "\ufffd"}, []string{"\xfe"}, []string{"\xff", "\ufffd"}},
	} {
		if got := impl.Without(c.list, c.remove); !slices.Equal(got, c.want) {
			t.Errorf("Without(%q, %q) = %q, want %q", c.list, c.remove, got, c.want)
		}
	}
}

func TestWithoutAllLists(t *testing.T) {
	lists := listsOver([]string{"", "a", "ab", "\xff"}, 4)
	for _, list := range lists {
		for _, remove := range listsOver([]string{"", "a", "ab"}, 3) {
			var want []string
			for _, s := range list {
				if !slices.Contains(remove, s) {
					want = append(want, s)
				}
			}
			if got := impl.Without(list, remove); !slices.Equal(got, want) {
				t.Errorf("Without(%q, %q) = %q, want %q", list, remove, got, want)
			}
		}
	}
}

// Promise 48: every function is total and does not modify its arguments.

func TestNameFunctionsOfLongLists(t *testing.T) {
	const size = 100000
	var list []string
	for i := range size {
		list = append(list, "n"+strconv.Itoa(size-i))
	}
	if !impl.AllDistinct(list) || impl.AllDistinct(append(slices.Clone(list), "n1")) {
		t.Error("AllDistinct of a long list")
	}
	if got := impl.SortNames(slices.Concat(list, list)); len(got) != size || got[0] != "n1" || got[size-1] != "n99999" {
		t.Error("SortNames of a long list")
	}
	if got := impl.Without(list, list[1:]); !slices.Equal(got, []string{"n100000"}) {
		t.Error("Without of a long list")
	}
	if impl.IndexOf(list, "n1") != size-1 || impl.IndexOf(list, "n0") != -1 {
		t.Error("IndexOf in a long list")
	}
}

// withSpare returns list with unused capacity, and the array of both.
func withSpare(list []string) (used []string, whole []string) {
	whole = append(slices.Clone(list), "spare", "b", "a")
	return whole[:len(list)], whole
}

func TestNameFunctionsKeepTheirArguments(t *testing.T) {
	removes := listsOver([]string{"", "a", "c"}, 2)
	for _, list := range listsOver([]string{"", "b", "a"}, 4) {
		for _, remove := range removes {
			used, whole := withSpare(list)
			usedRemove, wholeRemove := withSpare(remove)
			wantWhole, wantRemove := slices.Clone(whole), slices.Clone(wholeRemove)
			impl.IndexOf(used, "a")
			impl.AllDistinct(used)
			sorted := impl.SortNames(used)
			kept := impl.Without(used, usedRemove)
			clear(sorted[:cap(sorted)])
			clear(kept[:cap(kept)])
			if !slices.Equal(whole, wantWhole) {
				t.Fatalf("the list %q became %q", wantWhole, whole)
			}
			if !slices.Equal(wholeRemove, wantRemove) {
				t.Fatalf("the list %q became %q", wantRemove, wholeRemove)
			}
		}
	}
}

func TestNameResultsAreIndependent(t *testing.T) {
	for _, list := range listsOver([]string{"", "b", "a"}, 4) {
		used, whole := withSpare(list)
		sorted, kept, again := impl.SortNames(used), impl.Without(used, nil), impl.Without(used, nil)
		wantSorted, wantKept := slices.Clone(sorted), slices.Clone(kept)
		clear(whole)
		if !slices.Equal(sorted, wantSorted) || !slices.Equal(kept, wantKept) {
			t.Errorf("the results for %q changed with the list: %q, %q", list, sorted, kept)
		}
		clear(again[:cap(again)])
		if !slices.Equal(kept, wantKept) {
			t.Errorf("Without(%q, nil) became %q with another result", list, kept)
		}
	}
}
