package scan_test

import (
	"regexp"
	"slices"
	"strings"
	"testing"

	"semblance/api"
	"semblance/scan"
)

// marks are the document's 22.
func marks() []string {
	return []string{
		"->", ":=", "<=", ">=", "!=", "==", "..",
		"{", "}", "[", "]", "(", ")", ",", ";", "=", "<", ">", "+", "-", "*", "/",
	}
}

// tok is a token at a line, and a byte in it.
func tok(kind int, text string, line, col int) api.Token {
	return api.Token{Kind: kind, Text: text, At: api.Pos{Line: line, Col: col}}
}

// texts is what tokens say, one by one, but for the end.
func texts(l []api.Token) []string {
	var all []string
	for _, t := range l {
		if t.Kind != api.TokEnd {
			all = append(all, t.Text)
		}
	}
	return all
}

// placeless is tokens without their places.
func placeless(l []api.Token) []api.Token {
	all := slices.Clone(l)
	for i := range all {
		all[i].At = api.Pos{}
	}
	return all
}

// checkTokens holds what Tokens answers against what it must, where there is no fault.
func checkTokens(t *testing.T, s string, want ...api.Token) {
	t.Helper()
	l, at, e := scan.Tokens(s)
	if !slices.Equal(l, want) || at != (api.Pos{}) || e != api.OK {
		t.Errorf("Tokens(%.60q, of %d bytes): %v, at %v, error %d, not %v", s, len(s), l, at, e, want)
	}
}

// checkSays holds what the tokens of a text say against what they must say.
func checkSays(t *testing.T, s string, want ...string) {
	t.Helper()
	l, at, e := scan.Tokens(s)
	if !slices.Equal(texts(l), want) || at != (api.Pos{}) || e != api.OK {
		t.Errorf("Tokens(%.60q, of %d bytes): %q, at %v, error %d, not %q", s, len(s), texts(l), at, e, want)
	}
}

// checkFault holds a text's fault, and its place, against what they must be; nothing stands beside them.
func checkFault(t *testing.T, s string, line, col int, want api.Errno) {
	t.Helper()
	l, at, e := scan.Tokens(s)
	if len(l) != 0 || at != (api.Pos{Line: line, Col: col}) || e != want {
		t.Errorf("Tokens(%.60q, of %d bytes): %d tokens, at %v, error %d, not error %d at line %d, byte %d",
			s, len(s), len(l), at, e, want, line, col)
	}
}

// gap is blanks and remarks at a text's beginning; piece is a run that is a name, a number or a mark, the longest first.
var (
	gap   = regexp.MustCompile(`\A(?:[ \t\n\r]|#[^\n]*)*`)
	piece = regexp.MustCompile(`\A(?:([a-z][a-z0-9_]*)|([0-9]+)|(->|:=|<=|>=|!=|==|\.\.|[{}\[\](),;=<>+*/-]))`)
)

// place is where a byte of a text stands, reckoned by the text ahead of it.
func place(s string, at int) api.Pos {
	ahead := s[:at]
	return api.Pos{Line: 1 + strings.Count(ahead, "\n"), Col: at - strings.LastIndexByte(ahead, '\n')}
}

// another reads a text by the document's words in another way, with all places reckoned anew.
func another(s string) (l []api.Token, at api.Pos, e api.Errno) {
	if len(s) > 65536 {
		return nil, api.Pos{Line: 1, Col: 1}, api.ErrLong
	}
	for i := 0; ; {
		i += len(gap.FindString(s[i:]))
		if i == len(s) {
			return append(l, api.Token{Kind: api.TokEnd, At: place(s, i)}), api.Pos{}, api.OK
		}
		m := piece.FindStringSubmatch(s[i:])
		if m == nil {
			return nil, place(s, i), api.ErrText
		}
		kind, end := api.TokMark, i+len(m[0])
		switch {
		case m[1] != "":
			kind = api.TokName
		case m[2] != "":
			kind = api.TokNum
			if end < len(s) && (s[end] == '_' || s[end] >= 'a' && s[end] <= 'z') {
				return nil, place(s, i), api.ErrText
			}
		}
		if kind == api.TokName && len(m[0]) > 12 || kind == api.TokNum && len(m[0]) > 9 {
			return nil, place(s, i), api.ErrLong
		}
		if len(l) == 4000 {
			return nil, place(s, i), api.ErrFull
		}
		l = append(l, api.Token{Kind: kind, Text: m[0], At: place(s, i)})
		i = end
	}
}

// checkBoth holds Tokens against the other reading, and what is told of a text's tokens against them (Sc3).
func checkBoth(t *testing.T, s string) {
	t.Helper()
	l, at, e := scan.Tokens(s)
	want, wantAt, wantE := another(s)
	if !slices.Equal(l, want) || at != wantAt || e != wantE {
		t.Fatalf("Tokens(%.60q, of %d bytes): %v, at %v, error %d, not %v, at %v, error %d", s, len(s), l, at, e, want, wantAt, wantE)
	}
	if e == api.OK {
		checkAgain(t, l)
	}
}

// checkAgain: what is told of tokens has them again, and is told the same again.
func checkAgain(t *testing.T, l []api.Token) {
	t.Helper()
	said := scan.Text(l)
	again, at, e := scan.Tokens(said)
	if !slices.Equal(placeless(again), placeless(l)) || at != (api.Pos{}) || e != api.OK {
		t.Fatalf("Tokens(%.60q): %v, at %v, error %d, not %v again", said, again, at, e, l)
	}
	if twice := scan.Text(again); twice != said {
		t.Fatalf("Text: %.60q, and then %.60q", said, twice)
	}
}

// each calls do with all texts of a number of bytes at most, out of some.
func each(bytes string, most int, do func(s string)) {
	do("")
	text := make([]byte, 0, most)
	var more func()
	more = func() {
		if len(text) == most {
			return
		}
		for i := range len(bytes) {
			text = append(text, bytes[i])
			do(string(text))
			more()
			text = text[:len(text)-1]
		}
	}
	more()
}

// Sc1: the document's example, and a chart.
func TestExamples(t *testing.T) {
	checkTokens(t, "n<=1->b",
		tok(api.TokName, "n", 1, 1), tok(api.TokMark, "<=", 1, 2), tok(api.TokNum, "1", 1, 4),
		tok(api.TokMark, "->", 1, 5), tok(api.TokName, "b", 1, 7), tok(api.TokEnd, "", 1, 8))
	checkSays(t, "chart door { event go; var n 0 .. 1 = 0; or house { leaf shut { on go [n < 1] / n := n + 1 -> shut; } } }",
		"chart", "door", "{", "event", "go", ";", "var", "n", "0", "..", "1", "=", "0", ";", "or", "house", "{",
		"leaf", "shut", "{", "on", "go", "[", "n", "<", "1", "]", "/", "n", ":=", "n", "+", "1", "->", "shut", ";", "}", "}", "}")
}

// Sc1: keywords are names here, as each run that begins with a letter.
func TestNames(t *testing.T) {
	for _, s := range []string{
		"a", "z", "m", "a0", "a9", "z_", "a__", "a_b_c", "x1y2", "n0", "door_2", "abcdefghijkl", "a12345678901", "a___________",
		"chart", "event", "var", "leaf", "or", "and", "enter", "exit", "on", "auto", "any", "in", "min", "max", "not", "true", "false",
	} {
		checkTokens(t, s, tok(api.TokName, s, 1, 1), tok(api.TokEnd, "", 1, 1+len(s)))
	}
	checkSays(t, "notx not x", "notx", "not", "x")
	checkSays(t, "a1 1 a", "a1", "1", "a")
	checkSays(t, "a-b", "a", "-", "b")
	checkSays(t, "in(a)", "in", "(", "a", ")")
}

// Sc1: a name has 12 bytes at most, wherever it stands; a longer one is not cut in two.
func TestLongNames(t *testing.T) {
	for _, part := range []string{"a", "z0", "q_9"} {
		long := strings.Repeat(part, 40)
		for size := 1; size <= 40; size++ {
			s := long[:size]
			if size <= 12 {
				checkTokens(t, s, tok(api.TokName, s, 1, 1), tok(api.TokEnd, "", 1, 1+size))
				checkSays(t, s+"="+s, s, "=", s)
				continue
			}
			checkFault(t, s, 1, 1, api.ErrLong)
			checkFault(t, s+" a", 1, 1, api.ErrLong)
			checkFault(t, "a;\n  "+s+";", 2, 3, api.ErrLong)
		}
	}
	checkFault(t, strings.Repeat("a", 65536), 1, 1, api.ErrLong)
}

// Sc1: numbers are digits alone, also with a 0 ahead of others.
func TestNumbers(t *testing.T) {
	for _, s := range []string{"0", "1", "9", "10", "00", "007", "1000000", "1000001", "000000000", "123456789", "999999999"} {
		checkTokens(t, s, tok(api.TokNum, s, 1, 1), tok(api.TokEnd, "", 1, 1+len(s)))
	}
	checkSays(t, "-1", "-", "1")
	checkSays(t, "1 2", "1", "2")
	checkSays(t, "0..9", "0", "..", "9")
	checkSays(t, "1+2*3", "1", "+", "2", "*", "3")
	checkSays(t, "1#a", "1")
}

// Sc1: a number has 9 digits at most, be they 0.
func TestLongNumbers(t *testing.T) {
	for _, part := range []string{"0", "1", "9", "10"} {
		long := strings.Repeat(part, 40)
		for size := 1; size <= 40; size++ {
			s := long[:size]
			if size <= 9 {
				checkTokens(t, s, tok(api.TokNum, s, 1, 1), tok(api.TokEnd, "", 1, 1+size))
				continue
			}
			checkFault(t, s, 1, 1, api.ErrLong)
			checkFault(t, s+" a", 1, 1, api.ErrLong)
			checkFault(t, s+";", 1, 1, api.ErrLong)
			checkFault(t, "a\n\n ("+s+")", 3, 3, api.ErrLong)
		}
	}
	checkFault(t, "9223372036854775808", 1, 1, api.ErrLong)
	checkFault(t, "18446744073709551617", 1, 1, api.ErrLong)
	checkFault(t, strings.Repeat("0", 65536), 1, 1, api.ErrLong)
}

// Sc1: no token stands where a letter or _ stands behind digits, however many; the place is the first digit's.
func TestNumbersWithLetters(t *testing.T) {
	for _, s := range []string{
		"1a", "1z", "1_", "0a", "9_9", "12ab", "1a1", "1e3", "0x10", "1_000", "123456789a", "123456789_", "1chart",
		"1234567890a", "1234567890_", strings.Repeat("9", 500) + "z",
	} {
		checkFault(t, s, 1, 1, api.ErrText)
		checkFault(t, "a = "+s, 1, 5, api.ErrText)
		checkFault(t, "(\n"+s+")", 2, 1, api.ErrText)
	}
	for b := range 256 {
		s := "12" + string([]byte{byte(b)}) + " "
		if b == '_' || b >= 'a' && b <= 'z' {
			checkFault(t, s, 1, 1, api.ErrText)
		} else {
			checkBoth(t, s)
		}
	}
	checkFault(t, "12A", 1, 3, api.ErrText)
	checkFault(t, "1.5", 1, 2, api.ErrText)
}

// Sc1: each mark, alone and between others.
func TestMarks(t *testing.T) {
	if len(marks()) != 22 {
		t.Fatal("the test has not 22 marks")
	}
	for _, m := range marks() {
		checkTokens(t, m, tok(api.TokMark, m, 1, 1), tok(api.TokEnd, "", 1, 1+len(m)))
		checkTokens(t, "a"+m+"1", tok(api.TokName, "a", 1, 1), tok(api.TokMark, m, 1, 2),
			tok(api.TokNum, "1", 1, 2+len(m)), tok(api.TokEnd, "", 1, 3+len(m)))
		checkTokens(t, " "+m+"\n"+m+"#", tok(api.TokMark, m, 1, 2), tok(api.TokMark, m, 2, 1), tok(api.TokEnd, "", 2, 2+len(m)))
	}
	for b := range 256 {
		s := string([]byte{byte(b)})
		if strings.Contains(" \t\n\r#", s) || slices.Contains(marks(), s) || s >= "0" && s <= "9" || s >= "a" && s <= "z" {
			if _, _, e := scan.Tokens(s); e != api.OK {
				t.Errorf("Tokens(%q): error %d", s, e)
			}
			continue
		}
		checkFault(t, s, 1, 1, api.ErrText)
	}
}

// Sc1: of several marks that stand at one place it is the longest.
func TestLongestMark(t *testing.T) {
	for _, c := range [][]string{
		{"->", "->"}, {"- >", "-", ">"}, {"-->", "-", "->"}, {"->>", "->", ">"}, {"->=", "->", "="}, {">-", ">", "-"}, {"-", "-"}, {"--", "-", "-"},
		{"<=", "<="}, {"< =", "<", "="}, {"<==", "<=", "="}, {"<<=", "<", "<="}, {"=<", "=", "<"}, {"<", "<"}, {"<>", "<", ">"},
		{">=", ">="}, {"> =", ">", "="}, {">==", ">=", "="}, {">>=", ">", ">="}, {"=>", "=", ">"}, {"=>=", "=", ">="},
		{"==", "=="}, {"= =", "=", "="}, {"===", "==", "="}, {"====", "==", "=="}, {"==>", "==", ">"},
		{"!=", "!="}, {"!==", "!=", "="}, {"!===", "!=", "=="}, {"=!=", "=", "!="},
		{":=", ":="}, {":==", ":=", "="}, {":=-", ":=", "-"},
		{"..", ".."}, {"....", "..", ".."}, {"1..2", "1", "..", "2"}, {"..-1", "..", "-", "1"},
		{"//", "/", "/"}, {"/*", "/", "*"}, {"+=", "+", "="}, {"*-", "*", "-"}, {"<-", "<", "-"}, {"<->", "<", "->"},
		{"((", "(", "("}, {"])", "]", ")"}, {"{}", "{", "}"}, {";;", ";", ";"}, {",;", ",", ";"},
	} {
		checkSays(t, c[0], c[1:]...)
	}
	for _, c := range []struct {
		s   string
		col int
	}{
		{".", 1}, {"...", 3}, {". .", 1}, {".....", 5}, {".=", 1}, {"!", 1}, {"! =", 1}, {"!!=", 1}, {"=!", 2}, {"!a", 1}, {"a.b", 2},
		{":", 1}, {": =", 1}, {"::=", 1}, {"=:", 2}, {":=:", 3}, {"->.", 3}, {"<!", 2}, {"&&", 1}, {"a|b", 2},
	} {
		checkFault(t, c.s, 1, c.col, api.ErrText)
	}
}

// Sc1: blanks may stand between tokens, and nothing else but remarks.
func TestBlanks(t *testing.T) {
	checkTokens(t, "", tok(api.TokEnd, "", 1, 1))
	checkTokens(t, " ", tok(api.TokEnd, "", 1, 2))
	checkTokens(t, "\t", tok(api.TokEnd, "", 1, 2))
	checkTokens(t, "\r", tok(api.TokEnd, "", 1, 2))
	checkTokens(t, "\n", tok(api.TokEnd, "", 2, 1))
	checkTokens(t, " \t\r\n \n\n\r\t  ", tok(api.TokEnd, "", 4, 5))
	checkTokens(t, "\r\n\r\n", tok(api.TokEnd, "", 3, 1))
	checkTokens(t, " a\t;\rb\n=", tok(api.TokName, "a", 1, 2), tok(api.TokMark, ";", 1, 4), tok(api.TokName, "b", 1, 6),
		tok(api.TokMark, "=", 2, 1), tok(api.TokEnd, "", 2, 2))
	for _, s := range []string{"\v", "\f", "\x00", "\b", "\x1f", "\x7f", "\u00a0", "\u0085", "\u2028", "\u3000", "\ufeff"} {
		checkFault(t, s, 1, 1, api.ErrText)
		checkFault(t, "a"+s+"b", 1, 2, api.ErrText)
	}
}

// Sc1: a remark goes on to the line's end, or to the text's end, whatever stands in it.
func TestRemarks(t *testing.T) {
	checkTokens(t, "#", tok(api.TokEnd, "", 1, 2))
	checkTokens(t, "# all of it", tok(api.TokEnd, "", 1, 12))
	checkTokens(t, "#\n", tok(api.TokEnd, "", 2, 1))
	checkTokens(t, "# a remark\nb", tok(api.TokName, "b", 2, 1), tok(api.TokEnd, "", 2, 2))
	checkTokens(t, "a#b\n c# d", tok(api.TokName, "a", 1, 1), tok(api.TokName, "c", 2, 2), tok(api.TokEnd, "", 2, 6))
	checkTokens(t, "a # b # c\n#\n\n# d\ne", tok(api.TokName, "a", 1, 1), tok(api.TokName, "e", 5, 1), tok(api.TokEnd, "", 5, 2))
	checkTokens(t, "-#\n>", tok(api.TokMark, "-", 1, 1), tok(api.TokMark, ">", 2, 1), tok(api.TokEnd, "", 2, 2))
	checkTokens(t, "# a\rb\r\nc", tok(api.TokName, "c", 2, 1), tok(api.TokEnd, "", 2, 2))
	checkTokens(t, "a # $ \u00e9 \xff \x00 A _ 1a "+strings.Repeat("x", 100)+"\nb",
		tok(api.TokName, "a", 1, 1), tok(api.TokName, "b", 2, 1), tok(api.TokEnd, "", 2, 2))
	checkTokens(t, "# \u00e9\xff", tok(api.TokEnd, "", 1, 6))
	checkFault(t, "# a\n$", 2, 1, api.ErrText)
	checkFault(t, "a#\n# b\n  1a", 3, 3, api.ErrText)
	checkSays(t, "1#_\n2", "1", "2")
}

// Sc1: the place of each token, and of the end.
func TestPlaces(t *testing.T) {
	checkTokens(t, "leaf a {\n  on go -> b; # there\n\n\tauto;\r\n}\n",
		tok(api.TokName, "leaf", 1, 1), tok(api.TokName, "a", 1, 6), tok(api.TokMark, "{", 1, 8),
		tok(api.TokName, "on", 2, 3), tok(api.TokName, "go", 2, 6), tok(api.TokMark, "->", 2, 9), tok(api.TokName, "b", 2, 12), tok(api.TokMark, ";", 2, 13),
		tok(api.TokName, "auto", 4, 2), tok(api.TokMark, ";", 4, 6),
		tok(api.TokMark, "}", 5, 1), tok(api.TokEnd, "", 6, 1))
	lines := strings.Repeat("\n", 3000) + strings.Repeat(" ", 3000)
	checkTokens(t, lines+"a", tok(api.TokName, "a", 3001, 3001), tok(api.TokEnd, "", 3001, 3002))
	checkFault(t, lines+"A", 3001, 3001, api.ErrText)
}

// Sc1: what begins no token, ahead of tokens, between and behind them.
func TestFaults(t *testing.T) {
	for _, s := range []string{
		"A", "Z", "Chart", "_", "_a", "__", "_1", "$", "%", "&", "|", "^", "~", "?", "@", "!", "'", "\"", "`", "\\", ".", ":",
		"\x00", "\x01", "\x7f", "\x80", "\xff", "\xc3", "\xe2\x82", "\u00e9", "\u0430", "\u0660", "\uff41", "\ufffd", "\U0001d4b6",
	} {
		checkFault(t, s, 1, 1, api.ErrText)
		checkFault(t, " "+s, 1, 2, api.ErrText)
		checkFault(t, "\n"+s+" ", 2, 1, api.ErrText)
		checkFault(t, "a; "+s+";", 1, 4, api.ErrText)
		checkFault(t, "a;"+s, 1, 3, api.ErrText)
	}
	checkFault(t, "aB", 1, 2, api.ErrText)
	checkFault(t, "na\u00efve", 1, 3, api.ErrText)
	checkFault(t, "a\xff", 1, 2, api.ErrText)
	checkFault(t, "1\u0660", 1, 2, api.ErrText)
}

// Sc1: of several faults it is the first one's error and place.
func TestFirstFault(t *testing.T) {
	name, number := "abcdefghijklm", "1234567890"
	checkFault(t, "$ "+name, 1, 1, api.ErrText)
	checkFault(t, name+" $", 1, 1, api.ErrLong)
	checkFault(t, name+"$", 1, 1, api.ErrLong)
	checkFault(t, number+" "+name, 1, 1, api.ErrLong)
	checkFault(t, number+"A", 1, 1, api.ErrLong)
	checkFault(t, "a\n 1a "+name+"\n$", 2, 2, api.ErrText)
	checkFault(t, "a\n "+name+" 1a\n$", 2, 2, api.ErrLong)
	checkFault(t, "A\nB\nC", 1, 1, api.ErrText)
	checkFault(t, "# $\n"+number+" $", 2, 1, api.ErrLong)
}

// Sc1: there are 4000 tokens at most, the end not among them; a token's own fault comes ahead of that.
func TestManyTokens(t *testing.T) {
	for _, one := range []string{"a\n", "1\n", ";\n", "->\n", "#\n=\n"} {
		full := strings.Repeat(one, 4000)
		line := 1 + strings.Count(full, "\n")
		l, at, e := scan.Tokens(full)
		if len(l) != 4001 || l[3999].Kind == api.TokEnd || l[4000] != tok(api.TokEnd, "", line, 1) || at != (api.Pos{}) || e != api.OK {
			t.Errorf("Tokens of 4000 times %q: %d, at %v, error %d", one, len(l), at, e)
		}
		if l, at, e := scan.Tokens(full + "  # done"); len(l) != 4001 || at != (api.Pos{}) || e != api.OK {
			t.Errorf("Tokens of 4000 times %q and a remark: %d, at %v, error %d", one, len(l), at, e)
		}
		checkFault(t, full+"b", line, 1, api.ErrFull)
		checkFault(t, full+" \n  1", line+1, 3, api.ErrFull)
		checkFault(t, full+"# more\n->", line+1, 1, api.ErrFull)
		checkFault(t, full+"b $", line, 1, api.ErrFull)
		checkFault(t, full+"b abcdefghijklm", line, 1, api.ErrFull)
		checkFault(t, full+" $", line, 2, api.ErrText)
		checkFault(t, full+"1a", line, 1, api.ErrText)
		checkFault(t, full+"abcdefghijklm", line, 1, api.ErrLong)
		checkFault(t, full+"1234567890", line, 1, api.ErrLong)
		checkFault(t, full+"b\n"+full, line, 1, api.ErrFull)
	}
	checkFault(t, strings.Repeat(";", 4001), 1, 4001, api.ErrFull)
	checkFault(t, strings.Repeat(";", 65536), 1, 4001, api.ErrFull)
	checkFault(t, "$"+strings.Repeat(";", 5000), 1, 1, api.ErrText)
}

// Sc1: a text has 2^16 bytes at most; a longer one has no other fault than that.
func TestManyBytes(t *testing.T) {
	blank := strings.Repeat(" ", 65536)
	checkTokens(t, blank, tok(api.TokEnd, "", 1, 65537))
	checkTokens(t, blank[:65535]+"a", tok(api.TokName, "a", 1, 65536), tok(api.TokEnd, "", 1, 65537))
	checkTokens(t, "#"+strings.Repeat("\xff", 65535), tok(api.TokEnd, "", 1, 65537))
	checkTokens(t, strings.Repeat("\n", 65536), tok(api.TokEnd, "", 65537, 1))
	checkFault(t, blank[:65535]+"$", 1, 65536, api.ErrText)
	for _, s := range []string{
		blank + " ", "a" + blank, blank + "a", "$" + blank, blank + "$", "\n" + blank, blank + "\n", "#" + blank,
		strings.Repeat("a", 65537), strings.Repeat(";", 65537), strings.Repeat("$", 65537), strings.Repeat("\n", 65537),
		blank + blank + blank,
	} {
		checkFault(t, s, 1, 1, api.ErrLong)
	}
}

// Sc1: another reading of the document's words, at all texts of two bytes at most.
func TestShortTexts(t *testing.T) {
	var all [256]byte
	for b := range all {
		all[b] = byte(b)
	}
	each(string(all[:]), 2, func(s string) { checkBoth(t, s) })
}

// Sc1, Sc3: another reading of the document's words, at all small texts of some bytes, alone and behind a line.
func TestSmallTexts(t *testing.T) {
	for _, c := range []struct {
		bytes string
		most  int
	}{
		{"a0_-> :=<.!#\n\r{A", 4},
		{"-><=!:.", 6},
		{"a1_ ", 7},
		{"a# \n=", 6},
	} {
		each(c.bytes, c.most, func(s string) { checkBoth(t, s) })
		each(c.bytes, c.most-2, func(s string) { checkBoth(t, "ab 12;\n#-\n "+s+"\n; -> $") })
	}
}

// Sc1: another reading of the document's words, where names and numbers end, and at long texts that are cut off anywhere.
func TestLongTexts(t *testing.T) {
	for _, body := range []string{"abcdefghijkl", "abcdefghijk", "123456789", "12345678"} {
		each("a1_- #\nA", 3, func(s string) { checkBoth(t, "; "+body+s) })
	}
	chart := "chart door {\n  event go, stop; # two\n  var n -1 .. 3 = 0;\n  or house {\n    enter n := (n + 1) * 2;\n" +
		"    leaf shut {\n      on go [n <= 1 and in(open) or n != 2] / any n -> open;\r\n\tauto [n>=3]/n:=n-1;\n    }\n    leaf open;\n  }\n}\n"
	for i := range len(chart) + 1 {
		checkBoth(t, chart[:i])
		checkBoth(t, chart[i:])
		for _, s := range []string{"$", "_", "Z", "\xff", "#", "\n", " ", "q", "7", "."} {
			checkBoth(t, chart[:i]+s+chart[i:])
		}
	}
}

// Sc2: the tokens' texts with a blank between; nothing of an end, wherever it stands.
func TestText(t *testing.T) {
	a, one, arrow, end := tok(api.TokName, "a", 1, 1), tok(api.TokNum, "1", 7, 2), tok(api.TokMark, "->", 0, 0), tok(api.TokEnd, "", 1, 9)
	for _, c := range []struct {
		l    []api.Token
		want string
	}{
		{nil, ""},
		{[]api.Token{}, ""},
		{[]api.Token{end}, ""},
		{[]api.Token{{}}, ""},
		{[]api.Token{end, end, {}}, ""},
		{[]api.Token{a}, "a"},
		{[]api.Token{a, end}, "a"},
		{[]api.Token{end, a}, "a"},
		{[]api.Token{a, arrow, one}, "a -> 1"},
		{[]api.Token{a, arrow, one, end}, "a -> 1"},
		{[]api.Token{one, a, a}, "1 a a"},
		{[]api.Token{a, end, arrow}, "a ->"},
		{[]api.Token{end, a, end, end, one, {}, arrow, end}, "a 1 ->"},
		{[]api.Token{a, tok(api.TokEnd, "b", 1, 1), one}, "a 1"},
		{[]api.Token{tok(api.TokEnd, "b", 1, 1)}, ""},
		{[]api.Token{tok(api.TokName, "No Name", 1, 1), tok(api.TokMark, "\xff", 1, 1)}, "No Name \xff"},
		{[]api.Token{a, tok(api.TokName, "", 1, 1), one}, "a  1"},
		{[]api.Token{tok(9, "b", 1, 1), tok(-1, "c", 1, 1)}, "b c"},
	} {
		if got := scan.Text(c.l); got != c.want {
			t.Errorf("Text(%v): %q, not %q", c.l, got, c.want)
		}
	}
	l, _, _ := scan.Tokens("  on go[n<=1]/n:=n+1->b;# there\n\n")
	if got, want := scan.Text(l), "on go [ n <= 1 ] / n := n + 1 -> b ;"; got != want {
		t.Errorf("Text: %q, not %q", got, want)
	}
}

// Sc3: each two tokens that stand side by side stay two, and are the same again; so do as many as there may be.
func TestToldAgain(t *testing.T) {
	all := append(marks(), "a", "z_9", "abcdefghijkl", "on", "true", "0", "007", "123456789")
	for _, x := range all {
		for _, y := range all {
			l, at, e := scan.Tokens(x + " " + y)
			if !slices.Equal(texts(l), []string{x, y}) || e != api.OK {
				t.Fatalf("Tokens(%q): %v, at %v, error %d", x+" "+y, l, at, e)
			}
			checkAgain(t, l)
		}
	}
	for _, one := range []string{"abcdefghijkl\n", "123456789#\n", "->", ";"} {
		l, at, e := scan.Tokens(strings.Repeat(one, 4000))
		if e != api.OK {
			t.Fatalf("Tokens of 4000 times %q: at %v, error %d", one, at, e)
		}
		checkAgain(t, l)
	}
}

// R3: what is handed in stays as it is, also behind its end; two answers share nothing.
func TestHandedIn(t *testing.T) {
	s := "a -> 1;"
	l, _, _ := scan.Tokens(s)
	again, _, _ := scan.Tokens(s)
	was := slices.Clone(again)
	for i := range l {
		l[i] = tok(7, "other", 7, 7)
	}
	_ = append(l, tok(7, "other", 7, 7))
	if !slices.Equal(again, was) {
		t.Errorf("two answers share their tokens: %v", again)
	}
	back := append(slices.Clone(was), was...)
	kept := slices.Clone(back)
	scan.Text(back[:len(was)])
	if !slices.Equal(back, kept) {
		t.Errorf("what was handed in is now %v", back)
	}
}
