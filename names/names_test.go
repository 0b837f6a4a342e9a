package names_test

import (
	"regexp"
	"slices"
	"strconv"
	"strings"
	"testing"

	"semblance/names"
)

// keywords are the document's 17.
func keywords() []string {
	return []string{
		"chart", "event", "var", "leaf", "or", "and", "enter", "exit", "on",
		"auto", "any", "in", "min", "max", "not", "true", "false",
	}
}

// shaped is what a name is like, but for the keywords.
var shaped = regexp.MustCompile(`\A[a-z][a-z0-9_]{0,11}\z`)

// named tells by the document's words whether a text is a name.
func named(s string) bool { return shaped.MatchString(s) && !slices.Contains(keywords(), s) }

// checkWord holds Is and Keyword against the document's words, at one text.
func checkWord(t *testing.T, s string) {
	t.Helper()
	if got, want := names.Is(s), named(s); got != want {
		t.Errorf("Is(%q): %v", s, got)
	}
	if got, want := names.Keyword(s), slices.Contains(keywords(), s); got != want {
		t.Errorf("Keyword(%q): %v", s, got)
	}
}

// Nm1: names, and what is none, by hand.
func TestIs(t *testing.T) {
	for _, s := range []string{
		"a", "z", "m", "a0", "a9", "a_", "z_9", "a__", "shut", "open", "door", "n", "x1y2",
		"abcdefghijkl", "a12345678901", "a___________", "zzzzzzzzzzzz",
		"o", "charts", "chart1", "or_", "ors", "i", "ins", "no", "nota", "tru", "truee", "init", "maxi",
	} {
		if !names.Is(s) {
			t.Errorf("Is(%q): false", s)
		}
	}
	for _, s := range []string{
		"", "abcdefghijklm", "a123456789012", strings.Repeat("a", 1000), strings.Repeat("a", 1<<16),
		"0", "9", "1a", "0abc", "_", "_a", "__",
		"A", "Z", "Abc", "aBc", "abC", "SHUT", "Chart",
		" ", "a ", " a", "a b", "\n", "a\n", "\na", "a\x00", "\x00", "a\r", "a\t",
		"a-b", "a.b", "a->b", "a,b", "a`", "`", "a{", "{", "a/", "a:", "a@", "a[", "a^", "#a",
		"\u00e9", "a\u00e9", "\u00e9a", "na\u00efve", "\u0430", "a\u0430", "a\u0660", "a\u2081", "\uff41", "a\uff3f", "\u017f", "a\u0301", "\U0001d4b6",
		"\xff", "a\xff", "\xffa", "a\x80b", "a\xc3", "\xe2\x82", "a\xed\xa0\x80", "\xc1\xa1", "a\ufffd", "\ufffd",
	} {
		if names.Is(s) {
			t.Errorf("Is(%.40q, of %d bytes): true", s, len(s))
		}
	}
}

// Nm1: a name has 12 bytes at most, whatever they are; it is bytes that count, not runes.
func TestIsLong(t *testing.T) {
	for _, part := range []string{"a", "z", "a0", "q_", "or"} {
		long := strings.Repeat(part, 20)
		for n := range 20 {
			s := long[:n]
			want := n >= 1 && n <= 12 && s != "or"
			if got := names.Is(s); got != want {
				t.Errorf("Is(%q, of %d bytes): %v", s, n, got)
			}
		}
	}
}

// Nm1: each byte, at each place of a text of each length.
func TestIsEachByte(t *testing.T) {
	for n := 1; n <= 13; n++ {
		for at := range n {
			text := []byte(strings.Repeat("q", n))
			for b := range 256 {
				text[at] = byte(b)
				checkWord(t, string(text))
			}
		}
	}
}

// Nm1: all texts of two bytes at most.
func TestShortWords(t *testing.T) {
	checkWord(t, "")
	for i := range 256 {
		checkWord(t, string([]byte{byte(i)}))
		for k := range 256 {
			checkWord(t, string([]byte{byte(i), byte(k)}))
		}
	}
}

// Nm1: runes beyond ASCII are in no name, not even those whose last byte, or whose small form, is a letter's.
func TestIsEachRune(t *testing.T) {
	for r := rune(0x80); r <= 0x2ffff; r++ {
		if s := string(r); names.Is(s) || names.Is("a"+s) {
			t.Fatalf("Is(%q) or Is(%q): true", s, "a"+s)
		}
	}
}

// Nm1: each keyword is one, and no name.
func TestKeyword(t *testing.T) {
	if len(keywords()) != 17 {
		t.Fatal("the test has not 17 keywords")
	}
	for _, k := range keywords() {
		if !names.Keyword(k) {
			t.Errorf("Keyword(%q): false", k)
		}
		if names.Is(k) {
			t.Errorf("Is(%q): true", k)
		}
	}
	for _, s := range []string{
		"", " ", "a", "name", "state", "int", "bool", "if", "else", "xor", "root", "big", "off", "no", "nil", "all",
		"Chart", "CHART", "Or", "AND", "True", "FALSE", " or", "or ", "or\n", "or\x00", "or or", "or,and", "\u043er", "o\u0433",
	} {
		if names.Keyword(s) {
			t.Errorf("Keyword(%q): true", s)
		}
	}
}

// Nm1: texts that are a keyword but for one byte, that begin as one, or that are the beginning of one.
func TestNearKeywords(t *testing.T) {
	bytes := "abcdefghijklmnopqrstuvwxyz0189_AZ @[`{\x00\x7f\x80\xff"
	for _, k := range keywords() {
		for at := range len(k) + 1 {
			checkWord(t, k[:at])
			checkWord(t, k[at:])
			for i := range len(bytes) {
				checkWord(t, k[:at]+bytes[i:i+1]+k[at:])
				if at < len(k) {
					checkWord(t, k[:at]+bytes[i:i+1]+k[at+1:])
				}
			}
			if at < len(k) {
				checkWord(t, k[:at]+k[at+1:])
				checkWord(t, k[:at]+strings.ToUpper(k[at:]))
			}
		}
		for _, other := range keywords() {
			checkWord(t, k+other)
			checkWord(t, k+"_"+other)
		}
	}
}

// Nm1: the place of the first one that is the text.
func TestPlace(t *testing.T) {
	for _, c := range []struct {
		l    []string
		s    string
		want int
	}{
		{[]string{"a", "b", "c"}, "a", 0},
		{[]string{"a", "b", "c"}, "b", 1},
		{[]string{"a", "b", "c"}, "c", 2},
		{[]string{"a", "b", "c"}, "d", -1},
		{[]string{"a", "b", "c"}, "", -1},
		{[]string{"c", "b", "a"}, "a", 2},
		{[]string{"a", "b", "a", "b"}, "b", 1},
		{[]string{"x", "x", "x"}, "x", 0},
		{[]string{"x", "", ""}, "", 1},
		{[]string{"ab", "a"}, "a", 1},
		{[]string{"a"}, "ab", -1},
		{[]string{"A"}, "a", -1},
		{[]string{"a", "\xff", "\xfe"}, "\xfe", 2},
		{[]string{"\xff"}, "\ufffd", -1},
		{[]string{"e\u0301"}, "\u00e9", -1},
		{[]string{"a\x00", "a"}, "a", 1},
		{[]string{"or", "1", "a b"}, "a b", 2},
		{nil, "a", -1},
		{nil, "", -1},
		{[]string{}, "a", -1},
		{[]string{}, "", -1},
	} {
		if got := names.Place(c.l, c.s); got != c.want {
			t.Errorf("Place(%q, %q): %d, not %d", c.l, c.s, got, c.want)
		}
	}
}

// Nm1: the places of all that are the same as one ahead, beside it or not.
func TestTwins(t *testing.T) {
	for _, c := range []struct {
		l    []string
		want []int
	}{
		{nil, nil},
		{[]string{}, nil},
		{[]string{"a"}, nil},
		{[]string{"a", "b", "c"}, nil},
		{[]string{"a", "a"}, []int{1}},
		{[]string{"a", "b", "a"}, []int{2}},
		{[]string{"a", "a", "a"}, []int{1, 2}},
		{[]string{"a", "b", "b", "a"}, []int{2, 3}},
		{[]string{"b", "a", "b", "c", "a", "b"}, []int{2, 4, 5}},
		{[]string{"", "a", ""}, []int{2}},
		{[]string{"a", "A", "aa", "a "}, nil},
		{[]string{"\xff", "\xfe", "\ufffd", "\xff"}, []int{3}},
		{[]string{"or", "1", "or", "1"}, []int{2, 3}},
	} {
		if got := names.Twins(c.l); !slices.Equal(got, c.want) {
			t.Errorf("Twins(%q): %v, not %v", c.l, got, c.want)
		}
	}
}

// Nm1: all of both, each once, in the order of their bytes.
func TestUnion(t *testing.T) {
	for _, c := range []struct{ a, b, want []string }{
		{[]string{"b", "a"}, []string{"a", "c"}, []string{"a", "b", "c"}},
		{nil, nil, nil},
		{[]string{}, nil, nil},
		{nil, []string{}, nil},
		{[]string{"b", "a"}, nil, []string{"a", "b"}},
		{nil, []string{"b", "a"}, []string{"a", "b"}},
		{[]string{"a"}, []string{"a"}, []string{"a"}},
		{[]string{"a", "a", "b", "a"}, []string{}, []string{"a", "b"}},
		{[]string{"c", "c"}, []string{"c", "c", "c"}, []string{"c"}},
		{[]string{"a", "c"}, []string{"b", "d"}, []string{"a", "b", "c", "d"}},
		{[]string{"d", "c"}, []string{"b", "a"}, []string{"a", "b", "c", "d"}},
		{[]string{"a10", "a9", "a"}, []string{"a_", "a1"}, []string{"a", "a1", "a10", "a9", "a_"}},
		{[]string{"aa", "B", "b"}, []string{"_", "0", ""}, []string{"", "0", "B", "_", "aa", "b"}},
		{[]string{"\xff", "\u00e9", "\ufffd"}, []string{"z", "\x80", "\xff"}, []string{"z", "\x80", "\u00e9", "\ufffd", "\xff"}},
	} {
		if got := names.Union(c.a, c.b); !slices.Equal(got, c.want) {
			t.Errorf("Union(%q, %q): %q, not %q", c.a, c.b, got, c.want)
		}
	}
}

// lists is all lists of 4 texts at most out of a few, some of which are no names.
func lists() [][]string {
	texts := []string{"b", "a", "", "ab", "\xff"}
	all := [][]string{nil}
	for from, n := 0, 1; n <= 4; n++ {
		to := len(all)
		for ; from < to; from++ {
			for _, s := range texts {
				all = append(all, append(slices.Clone(all[from]), s))
			}
		}
	}
	return all
}

// Nm1: Place and Twins, at all small lists, each against the other's words.
func TestPlaceAndTwins(t *testing.T) {
	for _, l := range lists() {
		var want []int
		for i, s := range l {
			at := names.Place(l, s)
			if at < 0 || at > i || l[at] != s || slices.Contains(l[:at], s) {
				t.Errorf("Place(%q, %q): %d", l, s, at)
			}
			if slices.Contains(l[:i], s) {
				want = append(want, i)
			}
		}
		if at := names.Place(l, "c"); at != -1 {
			t.Errorf("Place(%q, \"c\"): %d", l, at)
		}
		if got := names.Twins(l); !slices.Equal(got, want) {
			t.Errorf("Twins(%q): %v, not %v", l, got, want)
		}
	}
}

// Nm2: a union has each of both and nothing else, rises strictly, and does not hang on the order of both.
func TestUnionFollows(t *testing.T) {
	all := lists()
	for _, a := range all {
		for _, b := range all {
			u := names.Union(a, b)
			if v := names.Union(b, a); !slices.Equal(u, v) {
				t.Fatalf("Union(%q, %q): %q, and turned round %q", a, b, u, v)
			}
			for i, s := range u {
				if i > 0 && u[i-1] >= s {
					t.Fatalf("Union(%q, %q) does not rise: %q", a, b, u)
				}
				if !slices.Contains(a, s) && !slices.Contains(b, s) {
					t.Fatalf("Union(%q, %q) has %q of neither", a, b, s)
				}
			}
			for _, s := range slices.Concat(a, b) {
				if !slices.Contains(u, s) {
					t.Fatalf("Union(%q, %q) has no %q: %q", a, b, s, u)
				}
			}
		}
	}
}

// Nm2: a union with itself is itself; so is one with nothing, or with a part of it.
func TestUnionOfItself(t *testing.T) {
	for _, a := range lists() {
		u := names.Union(a, a)
		for _, b := range [][]string{u, a, nil, {}, u[:len(u)/2], u[len(u)/2:]} {
			if v := names.Union(u, b); !slices.Equal(v, u) {
				t.Errorf("Union(%q, %q): %q", u, b, v)
			}
		}
	}
}

// R3: what is handed in stays as it is, also behind its end, and shares nothing with what is answered.
func TestHandedIn(t *testing.T) {
	back := []string{"c", "a", "c", "spare", "spare", "spare"}
	more := []string{"b", "a", "spare"}
	was, wasMore := slices.Clone(back), slices.Clone(more)
	a, b := back[:3], more[:2]
	u, v, w := names.Union(a, b), names.Union(a, nil), names.Union(nil, a)
	two, again := names.Twins(a), names.Twins(a)
	names.Place(a, "a")
	for _, l := range [][]string{u, v, w} {
		for i := range l {
			l[i] = "other"
		}
		_ = append(l, "other")
	}
	two[0] = 7
	if !slices.Equal(back, was) || !slices.Equal(more, wasMore) {
		t.Errorf("what was handed in is now %q and %q", back, more)
	}
	if !slices.Equal(again, []int{2}) {
		t.Errorf("two answers of Twins share their places: %v", again)
	}
	sorted := []string{"a", "b"}
	names.Union(sorted, nil)[0] = "other"
	if sorted[0] != "a" {
		t.Error("a union with nothing is the list that was handed in")
	}
}

// Nm1: long lists, whose texts stand twice each, far apart.
func TestLongLists(t *testing.T) {
	half := make([]string, 1<<16)
	for i := range half {
		half[i] = "n" + strconv.Itoa(len(half)+(i*40503)%len(half))
	}
	l := slices.Concat(half, half)
	u := names.Union(l, half)
	if len(u) != len(half) || !slices.IsSorted(u) {
		t.Errorf("Union: %d texts, not %d in order", len(u), len(half))
	}
	two := names.Twins(l)
	if len(two) != len(half) || two[0] != len(half) || two[len(two)-1] != len(l)-1 || !slices.IsSorted(two) {
		t.Errorf("Twins: %d places, not %d, rising, of the second half", len(two), len(half))
	}
	if two := names.Twins(half); len(two) != 0 {
		t.Errorf("Twins of texts that are all unlike: %d", len(two))
	}
	if at := names.Place(l, half[len(half)-1]); at != len(half)-1 {
		t.Errorf("Place of the first half's last one: %d", at)
	}
}
