package expr_test

import (
	"math"
	"slices"
	"strconv"
	"strings"
	"testing"

	"semblance/api"
	"semblance/cursor"
	"semblance/expr"
	"semblance/names"
	"semblance/reading"
	"semblance/term"
)

// op is what a word stands for where the tests write terms down; a - below one is neg.
func op(word string) int {
	return map[string]int{
		"neg": 3, "+": 4, "-": 5, "*": 6, "min": 7, "max": 8, "true": 9, "false": 10, "not": 12,
		"==": 13, "!=": 14, "<": 15, "<=": 16, ">": 17, ">=": 18, "and": 19, "or": 20,
	}[word]
}

// terms are those that words stand for: digits a TmNum, @open a TmIn, a name a TmVar.
func terms(s string) []api.Term {
	var l []api.Term
	for _, word := range strings.Fields(s) {
		one := api.Term{Op: op(word)}
		if n, err := strconv.Atoi(word); err == nil {
			one = api.Term{Op: 1, N: n}
		} else if name, is := strings.CutPrefix(word, "@"); is {
			one = api.Term{Op: 11, Name: name}
		} else if one.Op == 0 {
			one = api.Term{Op: 2, Name: word}
		}
		l = append(l, one)
	}
	return l
}

// checkRead: Read of tokens is that; then that token is next, and there is no fault.
func checkRead(t *testing.T, l []api.Token, want []api.Term, next api.Token) {
	t.Helper()
	reading.Check(t, l, expr.Read, slices.Equal, want, next)
}

// checkFault: Read of tokens is nothing, and that fault.
func checkFault(t *testing.T, l []api.Token, want api.Pos, fault api.Errno) {
	t.Helper()
	reading.CheckFault(t, l, expr.Read, slices.Equal, want, fault)
}

// checkParse: Parse of a text is that.
func checkParse(t *testing.T, s string, want []api.Term, fault api.Errno) {
	t.Helper()
	if got, e := expr.Parse(s); e != fault || !slices.Equal(got, want) {
		t.Errorf("Parse(%q): %v, error %d, not %v, error %d", s, got, e, want, fault)
	}
}

// checkPut: Put of terms is that.
func checkPut(t *testing.T, l []api.Term, want string, fault api.Errno) {
	t.Helper()
	if got, e := expr.Put(l); e != fault || got != want {
		t.Errorf("Put(%v): %q, error %d, not %q, error %d", l, got, e, want, fault)
	}
}

// Ex1, Ex2: the chapter's examples.
func TestExamples(t *testing.T) {
	l := terms("and not < x 2 or a b")
	checkParse(t, "not x < 2 and (a or b)", l, api.OK)
	checkPut(t, l, "not x < 2 and (a or b)", api.OK)
	l = terms("+ x 1")
	checkParse(t, "((x)) + 1", l, api.OK)
	checkPut(t, l, "x + 1", api.OK)
	checkParse(t, "a - b - c", terms("- - a b c"), api.OK)
}

// Ex1, Ex2: texts, the terms that they are, and these terms' text.
func TestTexts(t *testing.T) {
	for _, c := range []struct{ s, l, text string }{
		// Each Op.
		{"7", "7", "7"}, {"x", "x", "x"}, {"true", "true", "true"}, {"false", "false", "false"}, {"in(open)", "@open", "in(open)"},
		{"- x", "neg x", "-x"}, {"not x", "not x", "not x"},
		{"x+y", "+ x y", "x + y"}, {"x-y", "- x y", "x - y"}, {"x*y", "* x y", "x * y"},
		{"min ( x , y )", "min x y", "min(x, y)"}, {"max(x,y)", "max x y", "max(x, y)"},
		{"x==y", "== x y", "x == y"}, {"x!=y", "!= x y", "x != y"}, {"x<y", "< x y", "x < y"},
		{"x<=y", "<= x y", "x <= y"}, {"x>y", "> x y", "x > y"}, {"x>=y", ">= x y", "x >= y"},
		{"x  and\ty", "and x y", "x and y"}, {"x\nor # no\n y", "or x y", "x or y"},
		// Several of one kind, from the left, and with brackets from the right.
		{"a or b or c or d", "or or or a b c d", "a or b or c or d"},
		{"a and b and c and d", "and and and a b c d", "a and b and c and d"},
		{"a + b - c + d - e", "- + - + a b c d e", "a + b - c + d - e"},
		{"a * b * c * d", "* * * a b c d", "a * b * c * d"},
		{"((a or b) or c) or d", "or or or a b c d", "a or b or c or d"},
		{"a or (b or (c or d))", "or a or b or c d", "a or (b or (c or d))"},
		{"a and (b and c)", "and a and b c", "a and (b and c)"},
		{"a - (b - c)", "- a - b c", "a - (b - c)"}, {"a - (b + c)", "- a + b c", "a - (b + c)"}, {"a + (b + c)", "+ a + b c", "a + (b + c)"},
		{"a * (b * c)", "* a * b c", "a * (b * c)"},
		{"(a or b) or (c or d)", "or or a b or c d", "a or b or (c or d)"},
		// A second comparison just in brackets.
		{"(a < b) < c", "< < a b c", "(a < b) < c"}, {"a < (b < c)", "< a < b c", "a < (b < c)"},
		{"(a == b) != (c >= d)", "!= == a b >= c d", "(a == b) != (c >= d)"},
		{"a < b and c < d", "and < a b < c d", "a < b and c < d"},
		// not and - several times, and behind a sign.
		{"not not not a", "not not not a", "not not not a"}, {"not(not(a))", "not not a", "not not a"},
		{"---a", "neg neg neg a", "---a"}, {"-(-a)", "neg neg a", "--a"}, {"-1", "neg 1", "-1"}, {"--1", "neg neg 1", "--1"},
		{"a or not b", "or a not b", "a or not b"}, {"a and not not b", "and a not not b", "a and not not b"},
		{"not a or not b", "or not a not b", "not a or not b"}, {"not a and not b and c", "and and not a not b c", "not a and not b and c"},
		{"a--b", "- a neg b", "a - -b"}, {"a - - - b", "- a neg neg b", "a - --b"}, {"a+-b", "+ a neg b", "a + -b"}, {"a*-b", "* a neg b", "a * -b"},
		{"-a*-b", "* neg a neg b", "-a * -b"}, {"-a-b", "- neg a b", "-a - b"}, {"-a<-b", "< neg a neg b", "-a < -b"}, {"a * - - b * c", "* * a neg neg b c", "a * --b * c"},
		{"not -a", "not neg a", "not -a"}, {"-(not a)", "neg not a", "-(not a)"}, {"-true", "neg true", "-true"},
		{"not a == b", "not == a b", "not a == b"}, {"(not a) == b", "== not a b", "(not a) == b"}, {"a == (not b)", "== a not b", "a == (not b)"},
		{"not (a and b)", "not and a b", "not (a and b)"}, {"(not a) and b", "and not a b", "not a and b"}, {"not a + b", "not + a b", "not a + b"},
		{"-(a * b)", "neg * a b", "-(a * b)"}, {"-a * b", "* neg a b", "-a * b"}, {"(-a) * b", "* neg a b", "-a * b"}, {"a * (-b)", "* a neg b", "a * -b"},
		// One level next to another one.
		{"a or b and c", "or a and b c", "a or b and c"}, {"a and b or c", "or and a b c", "a and b or c"},
		{"(a or b) and c", "and or a b c", "(a or b) and c"}, {"a and (b or c)", "and a or b c", "a and (b or c)"},
		{"a or (b and c)", "or a and b c", "a or b and c"}, {"(a and b) or c", "or and a b c", "a and b or c"},
		{"a + b * c", "+ a * b c", "a + b * c"}, {"a * b + c", "+ * a b c", "a * b + c"},
		{"(a + b) * c", "* + a b c", "(a + b) * c"}, {"a * (b - c)", "* a - b c", "a * (b - c)"},
		{"a + b < c * d", "< + a b * c d", "a + b < c * d"}, {"(a < b) + c", "+ < a b c", "(a < b) + c"}, {"a + (b < c)", "+ a < b c", "a + (b < c)"},
		{"a or b and not c < d + e * -f", "or a and b not < c + d * e neg f", "a or b and not c < d + e * -f"},
		{"-a * b + c < d and e or f", "or and < + * neg a b c d e f", "-a * b + c < d and e or f"},
		{"a * b - c * d - e * f", "- - * a b * c d * e f", "a * b - c * d - e * f"},
		{"a < b or c and d == e or f", "or or < a b and c == d e f", "a < b or c and d == e or f"},
		// Brackets that are none of a need; min, max and in.
		{"(((1)))", "1", "1"}, {"(true)", "true", "true"}, {"(in(a))", "@a", "in(a)"}, {"((a) + (b))", "+ a b", "a + b"}, {"(min((a), (b)))", "min a b", "min(a, b)"},
		{"not (x)", "not x", "not x"}, {"-(x)", "neg x", "-x"}, {"not(x < 2)", "not < x 2", "not x < 2"},
		{"min(a or b, not c)", "min or a b not c", "min(a or b, not c)"}, {"max(a < b, -c)", "max < a b neg c", "max(a < b, -c)"},
		{"min(max(a,b),min(c,d))", "min max a b min c d", "min(max(a, b), min(c, d))"},
		{"-min(a, b) * max(c, d)", "* neg min a b max c d", "-min(a, b) * max(c, d)"},
		{"not in(a) and in(b)", "and not @a @b", "not in(a) and in(b)"}, {"in(a)==true", "== @a true", "in(a) == true"},
		// A name is not a keyword for beginning with one.
		{"nota", "nota", "nota"}, {"minn(", "", ""}, {"ina", "ina", "ina"}, {"truer and ors", "and truer ors", "truer and ors"}, {"a_1 + b2", "+ a_1 b2", "a_1 + b2"},
		{"abcdefghijkl", "abcdefghijkl", "abcdefghijkl"}, {"n<-1", "< n neg 1", "n < -1"}, {"0", "0", "0"}, {"1000000", "1000000", "1000000"},
	} {
		want := terms(c.l)
		if want == nil {
			checkParse(t, c.s, nil, api.ErrText)
			continue
		}
		checkParse(t, c.s, want, api.OK)
		checkPut(t, want, c.text, api.OK)
		checkParse(t, c.text, want, api.OK)
		l := reading.Tokens(t, c.s)
		checkRead(t, l, want, l[len(l)-1])
	}
}

// side is an Op, and of which level an expression must be at least to stand there without brackets.
type side struct {
	first int
	below []int
}

// sides tells by the document's words the level of an expression by its first term, and those of the grammar below it.
func sides() map[int]side {
	return map[int]side{
		1: {8, nil}, 2: {8, nil}, 9: {8, nil}, 10: {8, nil}, 11: {8, nil},
		3: {7, []int{7}}, 12: {3, []int{3}},
		4: {5, []int{5, 6}}, 5: {5, []int{5, 6}}, 6: {6, []int{6, 7}}, 7: {8, []int{1, 1}}, 8: {8, []int{1, 1}},
		13: {4, []int{5, 5}}, 14: {4, []int{5, 5}}, 15: {4, []int{5, 5}}, 16: {4, []int{5, 5}}, 17: {4, []int{5, 5}}, 18: {4, []int{5, 5}},
		19: {2, []int{2, 3}}, 20: {1, []int{1, 2}},
	}
}

// around is what stands in a text ahead of the expressions below an Op, between them, and behind them.
func around(op int) []string {
	return map[int][]string{
		1: {"5"}, 2: {"x"}, 9: {"true"}, 10: {"false"}, 11: {"in(open)"},
		3: {"-", ""}, 12: {"not ", ""},
		4: {"", " + ", ""}, 5: {"", " - ", ""}, 6: {"", " * ", ""}, 7: {"min(", ", ", ")"}, 8: {"max(", ", ", ")"},
		13: {"", " == ", ""}, 14: {"", " != ", ""}, 15: {"", " < ", ""}, 16: {"", " <= ", ""}, 17: {"", " > ", ""}, 18: {"", " >= ", ""},
		19: {"", " and ", ""}, 20: {"", " or ", ""},
	}[op]
}

// simple is an expression with names below its first term, and its text.
func simple(op int) ([]api.Term, string) {
	s := around(op)[0]
	l := []api.Term{{Op: op}}
	switch op {
	case 1:
		l[0].N = 5
	case 2:
		l[0].Name = "x"
	case 11:
		l[0].Name = "open"
	}
	for i, behind := range around(op)[1:] {
		name := []string{"a", "b"}[i]
		l = append(l, api.Term{Op: 2, Name: name})
		s += name + behind
	}
	return l, s
}

// Ex1, Ex2: each Op below each other one, on the left and on the right: with the brackets that are needed it is put, and read with and without such as are not.
func TestBelowOneAnother(t *testing.T) {
	for outer, o := range sides() {
		for inner, i := range sides() {
			l, s := simple(inner)
			for place, least := range o.below {
				whole, text, bare, full := []api.Term{{Op: outer}}, around(outer)[0], around(outer)[0], around(outer)[0]
				for at := range o.below {
					behind := around(outer)[at+1]
					if at != place {
						whole = append(whole, api.Term{Op: 2, Name: "y"})
						text, bare, full = text+"y"+behind, bare+"y"+behind, full+"(y)"+behind
						continue
					}
					whole = append(whole, l...)
					held := "(" + s + ")"
					if i.first >= least {
						held = s
					}
					text, bare, full = text+held+behind, bare+s+behind, full+"("+s+")"+behind
				}
				checkPut(t, whole, text, api.OK)
				checkParse(t, text, whole, api.OK)
				checkParse(t, full, whole, api.OK)
				if got, _ := expr.Parse(bare); slices.Equal(got, whole) != (i.first >= least) {
					t.Errorf("Parse(%q): %v; brackets are needed: %v", bare, got, i.first < least)
				}
			}
		}
	}
}

// Ex1, Ex2: what is no expression: the fault, and the token that is not as it must be.
func TestFaults(t *testing.T) {
	for _, c := range []struct {
		s    string
		line int
		col  int
		e    api.Errno
	}{
		{"", 1, 1, api.ErrText}, {" # no\n ", 2, 2, api.ErrText},
		// A sign alone, and what is missing ahead of a sign and behind it.
		{"or", 1, 1, api.ErrText}, {"and", 1, 1, api.ErrText}, {"not", 1, 4, api.ErrText}, {"-", 1, 2, api.ErrText}, {"+", 1, 1, api.ErrText}, {"*", 1, 1, api.ErrText}, {"<", 1, 1, api.ErrText},
		{"a or", 1, 5, api.ErrText}, {"a and", 1, 6, api.ErrText}, {"a <", 1, 4, api.ErrText}, {"a +", 1, 4, api.ErrText}, {"a *", 1, 4, api.ErrText}, {"a -", 1, 4, api.ErrText},
		{"or a", 1, 1, api.ErrText}, {"* a", 1, 1, api.ErrText}, {"== a", 1, 1, api.ErrText}, {"not not", 1, 8, api.ErrText}, {"- -", 1, 4, api.ErrText}, {"a\n or", 2, 4, api.ErrText},
		{"a or or b", 1, 6, api.ErrText}, {"a and or b", 1, 7, api.ErrText}, {"a + * b", 1, 5, api.ErrText}, {"a * + b", 1, 5, api.ErrText}, {"a < < b", 1, 5, api.ErrText}, {"+a", 1, 1, api.ErrText}, {"a - + b", 1, 5, api.ErrText},
		// not where the grammar has none.
		{"a + not b", 1, 5, api.ErrText}, {"a * not b", 1, 5, api.ErrText}, {"a < not b", 1, 5, api.ErrText}, {"- not a", 1, 3, api.ErrText}, {"not - not a", 1, 7, api.ErrText}, {"a and b == not c", 1, 12, api.ErrText},
		// Brackets.
		{"(", 1, 2, api.ErrText}, {")", 1, 1, api.ErrText}, {"()", 1, 2, api.ErrText}, {"(a", 1, 3, api.ErrText}, {"((a)", 1, 5, api.ErrText}, {"(a b)", 1, 4, api.ErrText}, {"(a, b)", 1, 3, api.ErrText}, {"(a < b < c)", 1, 8, api.ErrText}, {"(a or)", 1, 6, api.ErrText}, {"(not)", 1, 5, api.ErrText}, {"[a]", 1, 1, api.ErrText}, {"{a}", 1, 1, api.ErrText}, {"(a]", 1, 3, api.ErrText},
		// min, max and in.
		{"min", 1, 4, api.ErrText}, {"max", 1, 4, api.ErrText}, {"in", 1, 3, api.ErrText}, {"min a, b", 1, 5, api.ErrText}, {"min(", 1, 5, api.ErrText}, {"min()", 1, 5, api.ErrText}, {"min(a", 1, 6, api.ErrText}, {"min(a)", 1, 6, api.ErrText}, {"max(a,", 1, 7, api.ErrText}, {"max(a,)", 1, 7, api.ErrText}, {"max(,a)", 1, 5, api.ErrText}, {"max(a,b", 1, 8, api.ErrText}, {"max(a,b,c)", 1, 8, api.ErrText}, {"min(a b)", 1, 7, api.ErrText}, {"min(a;b)", 1, 6, api.ErrText}, {"min(a,,b)", 1, 7, api.ErrText}, {"max[a,b]", 1, 4, api.ErrText}, {"min(min(a,b)", 1, 13, api.ErrText},
		{"in a", 1, 4, api.ErrText}, {"in(", 1, 4, api.ErrText}, {"in()", 1, 4, api.ErrText}, {"in(a", 1, 5, api.ErrText}, {"in(1)", 1, 4, api.ErrText}, {"in((a))", 1, 4, api.ErrText}, {"in(a, b)", 1, 5, api.ErrText}, {"in(a b)", 1, 6, api.ErrText}, {"in(not a)", 1, 4, api.ErrText}, {"in(true)", 1, 4, api.ErrText}, {"in(or)", 1, 4, api.ErrText}, {"in[a]", 1, 3, api.ErrText}, {"in(a + b)", 1, 6, api.ErrText},
		// Keywords are no names.
		{"chart", 1, 1, api.ErrText}, {"event", 1, 1, api.ErrText}, {"var", 1, 1, api.ErrText}, {"leaf", 1, 1, api.ErrText}, {"enter", 1, 1, api.ErrText}, {"exit", 1, 1, api.ErrText}, {"on", 1, 1, api.ErrText}, {"auto", 1, 1, api.ErrText}, {"any", 1, 1, api.ErrText}, {"a + any", 1, 5, api.ErrText}, {"(var)", 1, 2, api.ErrText},
		// Other marks, commas.
		{",", 1, 1, api.ErrText}, {";", 1, 1, api.ErrText}, {"/", 1, 1, api.ErrText}, {"->", 1, 1, api.ErrText}, {":= a", 1, 1, api.ErrText}, {"a + ;", 1, 5, api.ErrText}, {"not ,", 1, 5, api.ErrText}, {"= a", 1, 1, api.ErrText}, {"a ==, b", 1, 5, api.ErrText}, {"->a", 1, 1, api.ErrText}, {"-->a", 1, 2, api.ErrText},
		// Numbers.
		{"1000001", 1, 1, api.ErrRange}, {"999999999", 1, 1, api.ErrRange}, {"-1000001", 1, 2, api.ErrRange}, {"a + 1000001 +", 1, 5, api.ErrRange}, {"min(1000001", 1, 5, api.ErrRange}, {"00", 1, 1, api.ErrText}, {"007", 1, 1, api.ErrText}, {"a < 01", 1, 5, api.ErrText}, {"00 + 1000001", 1, 1, api.ErrText}, {"1000001 + 00", 1, 1, api.ErrRange}, {"01000001", 1, 1, api.ErrText},
	} {
		checkFault(t, reading.Tokens(t, c.s), api.Pos{Line: c.line, Col: c.col}, c.e)
		checkParse(t, c.s, nil, c.e)
	}
}

// Ex1, Ex2: Read leaves what stands behind an expression, and stands at it; Parse tells ErrText.
func TestWhatStandsBehind(t *testing.T) {
	for _, c := range []struct {
		s, l string
		read int
	}{
		{"a b", "a", 1}, {"a 1", "a", 1}, {"1 a", "1", 1}, {"a)", "a", 1}, {"(a))", "a", 3}, {"a (b)", "a", 1}, {"1(2)", "1", 1}, {"a, b", "a", 1}, {"a;", "a", 1}, {"a ]", "a", 1}, {"a = b", "a", 1}, {"a := b", "a", 1}, {"a -> b", "a", 1}, {"n<=1->b", "<= n 1", 3},
		{"a not b", "a", 1}, {"a true", "a", 1}, {"a in (b)", "a", 1}, {"a min(b, c)", "a", 1}, {"a / b", "a", 1}, {"a .. b", "a", 1}, {"a on b", "a", 1}, {"a and b any", "and a b", 3}, {"true false", "true", 1},
		{"a < b < c", "< a b", 3}, {"a == b == c", "== a b", 3}, {"a < b >= c", "< a b", 3}, {"a + b < c * d == e", "< + a b * c d", 7}, {"not a < b < c", "not < a b", 4}, {"a and b < c < d", "and a < b c", 5}, {"a or not b == c != d", "or a not == b c", 6}, {"(a < b) < c < d", "< < a b c", 7},
		{"a < b not", "< a b", 3}, {"in(a) in(b)", "@a", 4}, {"min(a, b) c", "min a b", 6}, {"-a b", "neg a", 2}, {"not a not b", "not a", 2}, {"a (", "a", 1}, {"a 1000001", "a", 1}, {"a 00", "a", 1},
	} {
		l := reading.Tokens(t, c.s)
		checkRead(t, l, terms(c.l), l[c.read])
		checkParse(t, c.s, nil, api.ErrText)
	}
	// One expression behind the other, by the same cursor.
	c := cursor.New(reading.Tokens(t, "a + b c < 2 (not d) )"))
	for _, want := range []string{"+ a b", "< c 2", "not d"} {
		if got := expr.Read(c); !slices.Equal(got, terms(want)) {
			t.Errorf("Read: %v, not %s", got, want)
		}
	}
	if !c.Is(api.TokMark, ")") {
		t.Errorf("Read: then %v", c.Next())
	}
	if got := expr.Read(c); len(got) != 0 || c.Good() {
		t.Errorf("Read at a bracket: %v", got)
	}
}

// written are tokens of words, each at a place of its own: of digits a TokNum, of letters a TokName, else a TokMark.
func written(s string) []api.Token {
	var l []api.Token
	for i, word := range strings.Fields(s) {
		kind := api.TokMark
		switch {
		case word[0] >= 'a' && word[0] <= 'z':
			kind = api.TokName
		case word[0] >= '0' && word[0] <= '9':
			kind = api.TokNum
		}
		l = append(l, api.Token{Kind: kind, Text: word, At: api.Pos{Line: i + 1, Col: 3 * i}})
	}
	return l
}

// Ex1: of which kind the token of each sign and word may be.
func TestKindsOfTokens(t *testing.T) {
	const name, num, mark = api.TokName, api.TokNum, api.TokMark
	for _, c := range []struct {
		s     string
		at    int
		kinds []int
		// behind: what of it is read if the token is of another kind; empty, if that is a fault there.
		behind string
	}{
		{"a or b", 1, []int{name, mark}, "a"}, {"a and b", 1, []int{name, mark}, "a"},
		{"a == b", 1, []int{name, mark}, "a"}, {"a != b", 1, []int{name, mark}, "a"}, {"a < b", 1, []int{name, mark}, "a"},
		{"a <= b", 1, []int{name, mark}, "a"}, {"a > b", 1, []int{name, mark}, "a"}, {"a >= b", 1, []int{name, mark}, "a"},
		{"a + b", 1, []int{name, mark}, "a"}, {"a - b", 1, []int{name, mark}, "a"}, {"a * b", 1, []int{name, mark}, "a"},
		{"not a", 0, []int{name}, ""}, {"- a", 0, []int{mark}, ""}, {"a + - b", 2, []int{mark}, ""}, {"a or not b", 2, []int{name}, ""}, {"- - b", 1, []int{mark}, ""}, {"not not b", 1, []int{name}, ""},
		{"true", 0, []int{name}, ""}, {"false", 0, []int{name}, ""}, {"a and false", 2, []int{name}, ""},
		{"in ( a )", 0, []int{name}, ""}, {"in ( a )", 1, []int{mark}, ""}, {"in ( a )", 2, []int{name}, ""}, {"in ( a )", 3, []int{mark}, ""},
		{"min ( a , b )", 0, []int{name}, ""}, {"min ( a , b )", 1, []int{mark}, ""}, {"min ( a , b )", 3, []int{mark}, ""}, {"min ( a , b )", 5, []int{mark}, ""}, {"max ( a , b )", 0, []int{name}, ""}, {"max ( a , b )", 3, []int{mark}, ""},
		{"( a )", 0, []int{mark}, ""}, {"( a )", 2, []int{mark}, ""}, {"a", 0, []int{name}, ""}, {"7", 0, []int{num}, ""},
	} {
		plain := expr.Read(cursor.New(written(c.s)))
		if len(plain) == 0 {
			t.Errorf("Read of %q: nothing", c.s)
		}
		for _, kind := range []int{api.TokEnd, name, num, mark, 4, -1, math.MaxInt, math.MinInt} {
			l := written(c.s)
			l[c.at].Kind = kind
			switch {
			case slices.Contains(c.kinds, kind):
				checkRead(t, l, plain, api.Token{At: l[len(l)-1].At})
			case c.behind != "":
				checkRead(t, l, terms(c.behind), l[c.at])
			default:
				checkFault(t, l, l[c.at].At, api.ErrText)
			}
		}
	}
	// Of a kind that may be, but another text.
	for _, text := range []string{"", "OR", "or ", "=", "<>", "x", "&&", "\xff", "&", "||"} {
		l := written("a or b")
		l[1].Text = text
		checkRead(t, l, terms("a"), l[1])
		l[1].Kind = mark
		checkRead(t, l, terms("a"), l[1])
	}
}

// Ex1: which TokNum and TokName say a number and a name.
func TestNumbersAndNames(t *testing.T) {
	for _, c := range []struct {
		kind int
		text string
		want api.Term
		e    api.Errno
	}{
		{api.TokNum, "0", api.Term{Op: 1}, api.OK}, {api.TokNum, "999999", api.Term{Op: 1, N: 999999}, api.OK}, {api.TokNum, "1000000", api.Term{Op: 1, N: 1000000}, api.OK},
		{api.TokNum, "1000001", api.Term{}, api.ErrRange}, {api.TokNum, "9999999999999999999999", api.Term{}, api.ErrRange},
		{api.TokNum, "", api.Term{}, api.ErrText}, {api.TokNum, "01", api.Term{}, api.ErrText}, {api.TokNum, "-1", api.Term{}, api.ErrText}, {api.TokNum, "a", api.Term{}, api.ErrText}, {api.TokNum, "1 ", api.Term{}, api.ErrText}, {api.TokNum, "true", api.Term{}, api.ErrText},
		{api.TokName, "abcdefghijkl", api.Term{Op: 2, Name: "abcdefghijkl"}, api.OK}, {api.TokName, "a_0", api.Term{Op: 2, Name: "a_0"}, api.OK},
		{api.TokName, "abcdefghijklm", api.Term{}, api.ErrText}, {api.TokName, "", api.Term{}, api.ErrText}, {api.TokName, "A", api.Term{}, api.ErrText}, {api.TokName, "1", api.Term{}, api.ErrText}, {api.TokName, "_a", api.Term{}, api.ErrText}, {api.TokName, "\xff", api.Term{}, api.ErrText},
		{api.TokName, "(", api.Term{}, api.ErrText}, {api.TokName, "-", api.Term{}, api.ErrText}, {api.TokName, "<", api.Term{}, api.ErrText}, {api.TokMark, "", api.Term{}, api.ErrText}, {api.TokMark, "1", api.Term{}, api.ErrText}, {api.TokEnd, "a", api.Term{}, api.ErrText}, {api.TokEnd, "1", api.Term{}, api.ErrText},
	} {
		one := api.Token{Kind: c.kind, Text: c.text, At: api.Pos{Line: 5, Col: 6}}
		alone := []api.Token{one, {Kind: api.TokMark, Text: ";", At: api.Pos{Line: 7, Col: 8}}}
		behind := slices.Concat(written("a +"), alone)
		if c.e != api.OK {
			checkFault(t, alone, one.At, c.e)
			checkFault(t, behind, one.At, c.e)
			continue
		}
		checkRead(t, alone, []api.Term{c.want}, alone[1])
		checkRead(t, behind, append(terms("+ a"), c.want), alone[1])
	}
	// Each keyword, as a variable's name and as a state's.
	for _, word := range strings.Fields("chart event var leaf or and enter exit on auto any in min max not true false") {
		l := written("in ( x )")
		l[2].Text = word
		checkFault(t, l, l[2].At, api.ErrText)
		if word != "in" && word != "min" && word != "max" && word != "not" && word != "true" && word != "false" {
			checkFault(t, written(word), api.Pos{Line: 1}, api.ErrText)
		}
	}
}

// chain is a text of so many terms, an odd number: a sum, deep on the left, of at most 12 such, or of flat parts.
func chain(size int) string {
	parts := []string{}
	for left := size; left > 0; {
		// A part of 15 terms is 4 deep.
		part := min(15, left)
		parts = append(parts, flat(part))
		left -= part + 1
	}
	return strings.Join(parts, " + ")
}

// flat is a text of an odd number of terms, as flat as may be.
func flat(size int) string {
	if size == 1 {
		return "x"
	}
	first := (size - 1) / 2
	if first%2 == 0 {
		first--
	}
	return "max(" + flat(first) + ", " + flat(size-1-first) + ")"
}

// Ex1, Ex2: just so many terms, and one more; just so deep, and one deeper; the fault is at the token behind.
func TestLimits(t *testing.T) {
	minus := func(n int) string { return strings.Repeat("-", n) }
	nots := func(n int) string { return strings.Repeat("not ", n) }
	sums := func(n int) string { return "x" + strings.Repeat(" + x", n) }
	right := func(n int) string { return strings.Repeat("(x - ", n) + "x" + strings.Repeat(")", n) }
	for _, c := range []struct {
		s           string
		size, depth int
		e           api.Errno
	}{
		{flat(39), 39, 6, api.OK}, {"-" + flat(39), 40, 7, api.OK}, {flat(41), 41, 6, api.ErrFull}, {"-" + flat(41), 42, 7, api.ErrFull},
		{chain(39), 39, 6, api.OK}, {"not " + chain(39), 40, 7, api.OK}, {chain(41), 41, 6, api.ErrFull}, {chain(1001), 1001, 66, api.ErrFull},
		{minus(11) + "x", 12, 12, api.OK}, {minus(12) + "x", 13, 13, api.ErrDeep}, {minus(38) + "x", 39, 39, api.ErrDeep}, {minus(39) + "x", 40, 40, api.ErrDeep}, {minus(40) + "x", 41, 41, api.ErrFull}, {minus(2000) + "x", 2001, 2001, api.ErrFull},
		{nots(11) + "x", 12, 12, api.OK}, {nots(12) + "x", 13, 13, api.ErrDeep}, {nots(39) + "x", 40, 40, api.ErrDeep}, {nots(40) + "x", 41, 41, api.ErrFull},
		{sums(11), 23, 12, api.OK}, {sums(12), 25, 13, api.ErrDeep}, {sums(19), 39, 20, api.ErrDeep}, {sums(20), 41, 21, api.ErrFull}, {sums(1500), 3001, 1501, api.ErrFull},
		{right(11), 23, 12, api.OK}, {right(12), 25, 13, api.ErrDeep}, {right(19), 39, 20, api.ErrDeep}, {right(20), 41, 21, api.ErrFull},
		{"not " + sums(10), 22, 12, api.OK}, {"not " + sums(11), 24, 13, api.ErrDeep}, {"not " + sums(19), 40, 21, api.ErrDeep},
		{flat(27) + " * " + minus(10) + "x", 39, 12, api.OK}, {flat(27) + " * " + minus(11) + "x", 40, 13, api.ErrDeep}, {flat(27) + " * " + minus(12) + "x", 41, 14, api.ErrFull}, {flat(29) + " * " + minus(8) + "x", 39, 10, api.OK}, {flat(29) + " * " + minus(9) + "x", 40, 11, api.OK}, {flat(29) + " * " + minus(10) + "x", 41, 12, api.ErrFull},
		// Brackets are no terms, and make nothing deeper.
		{strings.Repeat("(", 1900) + "x" + strings.Repeat(")", 1900), 1, 1, api.OK}, {strings.Repeat("-(", 11) + "x" + strings.Repeat(")", 11), 12, 12, api.OK}, {strings.Repeat("((", 40) + flat(39) + strings.Repeat("))", 40), 39, 6, api.OK},
	} {
		for _, behind := range []string{"", " ;", " )", "\n a", " 1000001"} {
			l := reading.Tokens(t, c.s+behind)
			next := l[len(reading.Tokens(t, c.s))-1]
			if tree, o := another(l); o.e != api.OK || tree.size() != c.size || tree.depth() != c.depth {
				t.Fatalf("the test's own text %q is of %d terms, and %d deep", c.s, tree.size(), tree.depth())
			}
			if c.e != api.OK {
				checkFault(t, l, next.At, c.e)
				checkParse(t, c.s+behind, nil, c.e)
				continue
			}
			tree, _ := another(l)
			checkRead(t, l, tree.terms(), next)
			if behind == "" {
				checkParse(t, c.s, tree.terms(), api.OK)
			} else {
				checkParse(t, c.s+behind, nil, api.ErrText)
			}
		}
	}
}

// Ex1: a fault of a token comes ahead of too many terms, and of too deep ones, wherever it stands; too many ahead of too deep.
func TestFirstFault(t *testing.T) {
	for _, s := range []string{"", "x + ", strings.Repeat("-", 20), strings.Repeat("not ", 60), strings.Repeat("x + ", 60), strings.Repeat("min(x, ", 60), strings.Repeat("(", 60) + chain(61) + " * "} {
		for fault, e := range map[string]api.Errno{"": api.ErrText, ")": api.ErrText, "or": api.ErrText, "chart": api.ErrText, "00": api.ErrText, "1000001": api.ErrRange, "* x": api.ErrText, "in(1)": api.ErrText, "min(x": api.ErrText, "(x": api.ErrText, "max(x)": api.ErrText, "1000001 00": api.ErrRange} {
			l := reading.Tokens(t, s+fault)
			_, o := another(l)
			if o.e != e {
				t.Fatalf("the test's own text %q has fault %d", s+fault, o.e)
			}
			checkFault(t, l, o.at, e)
			checkParse(t, s+fault, nil, e)
		}
	}
}

// Ex1: of a cursor that has a fault, and of nobody's, there is nothing to read; the fault stays.
func TestFaultIsThere(t *testing.T) {
	for _, e := range []api.Errno{api.ErrArg, api.ErrText, api.ErrFull, api.ErrDeep, api.ErrState, -1, 99} {
		for past, want := range reading.Tokens(t, "a + 1") {
			c := cursor.New(reading.Tokens(t, "a + 1"))
			for _, one := range reading.Tokens(t, "a + 1")[:past] {
				c.Want(one.Kind, one.Text)
			}
			c.Fail(e)
			for range 2 {
				got := expr.Read(c)
				if at, f := c.Fault(); len(got) != 0 || f != e || at != want.At {
					t.Errorf("Read, with fault %d at %v: %v, fault %d at %v", e, want.At, got, f, at)
				}
			}
		}
	}
	for _, c := range []*cursor.Cursor{nil, {}, new(cursor.Cursor)} {
		got := expr.Read(c)
		if at, e := c.Fault(); len(got) != 0 || e != api.ErrState || at != (api.Pos{}) {
			t.Errorf("Read of nobody's cursor: %v, fault %d at %v", got, e, at)
		}
	}
	// A fault of Read stays at Reads behind it.
	c := cursor.New(reading.Tokens(t, "a + ) b"))
	for range 3 {
		got := expr.Read(c)
		if at, e := c.Fault(); len(got) != 0 || e != api.ErrText || at != (api.Pos{Line: 1, Col: 5}) {
			t.Errorf("Read: %v, fault %d at %v", got, e, at)
		}
	}
}

// Ex1: of a cursor at the end, and of no tokens, it is ErrText there.
func TestAtTheEnd(t *testing.T) {
	checkFault(t, nil, api.Pos{}, api.ErrText)
	checkFault(t, []api.Token{}, api.Pos{}, api.ErrText)
	checkFault(t, []api.Token{{}}, api.Pos{}, api.ErrText)
	checkFault(t, []api.Token{{At: api.Pos{Line: 3, Col: 4}}}, api.Pos{Line: 3, Col: 4}, api.ErrText)
	c := cursor.New(reading.Tokens(t, "a \n b"))
	c.Name()
	c.Name()
	c.Want(api.TokEnd, "")
	c.Want(api.TokEnd, "")
	got := expr.Read(c)
	if at, e := c.Fault(); len(got) != 0 || e != api.ErrText || at != (api.Pos{Line: 2, Col: 3}) {
		t.Errorf("Read at the end: %v, fault %d at %v", got, e, at)
	}
	// An end in the middle is no token of an expression.
	l := slices.Concat(written("a +"), []api.Token{{At: api.Pos{Line: 9, Col: 9}}}, written("b"))
	checkFault(t, l, api.Pos{Line: 9, Col: 9}, api.ErrText)
	checkRead(t, l[3:], terms("b"), api.Token{At: l[3].At})
	l = slices.Concat(written("a"), []api.Token{{At: api.Pos{Line: 9, Col: 9}}}, written("+ b"))
	checkRead(t, l, terms("a"), l[1])
}

// Ex2: of what is no expression that may be there is no text, but layer 5's error.
func TestPutErrors(t *testing.T) {
	neg := func(n int) []api.Term { return append(slices.Repeat([]api.Term{{Op: 3}}, n), api.Term{Op: 1, N: 7}) }
	for _, c := range []struct {
		l []api.Term
		e api.Errno
	}{
		{nil, api.ErrArg}, {[]api.Term{}, api.ErrArg}, {[]api.Term{{}}, api.ErrArg}, {[]api.Term{{Op: 21}}, api.ErrArg}, {[]api.Term{{Op: -1}}, api.ErrArg},
		{terms("+ x"), api.ErrArg}, {terms("x y"), api.ErrArg}, {terms("neg"), api.ErrArg}, {terms("< x 2 3"), api.ErrArg}, {terms("x + y"), api.ErrArg},
		{[]api.Term{{Op: 1, N: -1}}, api.ErrArg}, {[]api.Term{{Op: 1, N: 1000001}}, api.ErrArg}, {[]api.Term{{Op: 1, Name: "x"}}, api.ErrArg},
		{[]api.Term{{Op: 2}}, api.ErrArg}, {[]api.Term{{Op: 2, Name: "or"}}, api.ErrArg}, {[]api.Term{{Op: 2, Name: "x", N: 1}}, api.ErrArg}, {[]api.Term{{Op: 2, Name: "a b"}}, api.ErrArg},
		{[]api.Term{{Op: 11}}, api.ErrArg}, {[]api.Term{{Op: 11, Name: "in"}}, api.ErrArg}, {[]api.Term{{Op: 9, N: 1}}, api.ErrArg}, {[]api.Term{{Op: 10, Name: "false"}}, api.ErrArg},
		{[]api.Term{{Op: 12, Name: "a"}, {Op: 9}}, api.ErrArg}, {[]api.Term{{Op: 4}, {Op: 1}, {Op: 2, Name: "A"}}, api.ErrArg},
		{neg(12), api.ErrDeep}, {neg(39), api.ErrDeep}, {neg(40), api.ErrFull}, {neg(1 << 12), api.ErrFull}, {slices.Repeat(terms("x"), 41), api.ErrFull}, {slices.Repeat(terms("x"), 40), api.ErrArg}, {neg(12)[:12], api.ErrArg},
	} {
		checkPut(t, c.l, "", c.e)
		if e := term.Check(c.l); e != c.e {
			t.Errorf("the test's own list %v has error %d", c.l, e)
		}
	}
	checkPut(t, neg(11), strings.Repeat("-", 11)+"7", api.OK)
	// The type does not count: what has none has a text all the same.
	checkPut(t, terms("+ true not x"), "true + (not x)", api.OK)
	checkPut(t, terms("and 1 -2"), "", api.ErrArg)
	checkPut(t, terms("and 1 2"), "1 and 2", api.OK)
}

// Ex2: of a text with an error of layer 3 Parse tells that, ahead of all faults.
func TestScanErrors(t *testing.T) {
	for s, e := range map[string]api.Errno{
		"$": api.ErrText, "x + $": api.ErrText, "x ! y": api.ErrText, "1x": api.ErrText, "X": api.ErrText, "\xff": api.ErrText, "x\x00": api.ErrText,
		"abcdefghijklm": api.ErrLong, "1234567890": api.ErrLong, ") abcdefghijklm": api.ErrLong, "1000001 abcdefghijklm": api.ErrLong, "+ 1234567890": api.ErrLong, "chart 1234567890": api.ErrLong,
		"x" + strings.Repeat(" ", 1<<16-1): api.OK, "x" + strings.Repeat(" ", 1<<16): api.ErrLong, ")" + strings.Repeat(" ", 1<<16): api.ErrLong, "$" + strings.Repeat(" ", 1<<16): api.ErrLong,
		strings.Repeat(")", 4001): api.ErrFull, strings.Repeat(")", 4000): api.ErrText, "1000001" + strings.Repeat(" x", 4000): api.ErrFull, "1000001" + strings.Repeat(" x", 3999): api.ErrRange,
		strings.Repeat("(", 4001): api.ErrFull, strings.Repeat("(", 4000): api.ErrText, strings.Repeat("-", 3999) + "x": api.ErrFull, strings.Repeat("x ", 4000): api.ErrText,
	} {
		want := []api.Term(nil)
		if e == api.OK {
			want = terms("x")
		}
		if got, f := expr.Parse(s); f != e || !slices.Equal(got, want) {
			t.Errorf("Parse of %d bytes, %.20q: %v, error %d, not %v, error %d", len(s), s, got, f, want, e)
		}
	}
}

// tree is an expression in another form.
type tree struct {
	one   api.Term
	below []*tree
}

// size is how many terms there are.
func (x *tree) size() int {
	n := 1
	for _, b := range x.below {
		n += b.size()
	}
	return n
}

// depth is how deep it is.
func (x *tree) depth() int {
	most := 0
	for _, b := range x.below {
		most = max(most, b.depth())
	}
	return most + 1
}

// terms are its terms, each ahead of those below it.
func (x *tree) terms() []api.Term {
	l := []api.Term{x.one}
	for _, b := range x.below {
		l = append(l, b.terms()...)
	}
	return l
}

// other reads by the document's grammar in another way: each of its lines is a function, and what is read are trees.
type other struct {
	l    []api.Token
	past int
	at   api.Pos
	e    api.Errno
}

// another is the expression with which tokens begin, with no limit, and who read it.
func another(l []api.Token) (*tree, *other) {
	o := &other{l: l}
	return o.a1(), o
}

// next is the next token.
func (o *other) next() api.Token {
	if o.past < len(o.l) {
		return o.l[o.past]
	}
	if len(o.l) == 0 {
		return api.Token{}
	}
	return api.Token{At: o.l[len(o.l)-1].At}
}

// fail tells the first fault.
func (o *other) fail(e api.Errno) {
	if o.e == api.OK {
		o.at, o.e = o.next().At, e
	}
}

// take goes past one of some texts, of one of some kinds, and tells which one.
func (o *other) take(texts string, kinds ...int) string {
	t := o.next()
	if o.e == api.OK && slices.Contains(kinds, t.Kind) && slices.Contains(strings.Fields(texts), t.Text) {
		o.past++
		return t.Text
	}
	return ""
}

// want goes past a mark that must be there.
func (o *other) want(text string) {
	if o.take(text, api.TokMark) == "" {
		o.fail(api.ErrText)
	}
}

// some is one of a line, and as many more as there are, with signs between.
func (o *other) some(of func() *tree, signs string) *tree {
	x := of()
	for s := o.take(signs, api.TokMark, api.TokName); s != ""; s = o.take(signs, api.TokMark, api.TokName) {
		x = &tree{one: api.Term{Op: op(s)}, below: []*tree{x, of()}}
	}
	return x
}

func (o *other) a1() *tree { return o.some(o.a2, "or") }
func (o *other) a2() *tree { return o.some(o.a3, "and") }
func (o *other) a3() *tree {
	if o.take("not", api.TokName) != "" {
		return &tree{one: api.Term{Op: 12}, below: []*tree{o.a3()}}
	}
	return o.a4()
}
func (o *other) a4() *tree {
	x := o.a5()
	if s := o.take("== != < <= > >=", api.TokMark, api.TokName); s != "" {
		return &tree{one: api.Term{Op: op(s)}, below: []*tree{x, o.a5()}}
	}
	return x
}
func (o *other) a5() *tree { return o.some(o.a6, "+ -") }
func (o *other) a6() *tree { return o.some(o.a7, "*") }
func (o *other) a7() *tree {
	if o.take("-", api.TokMark) != "" {
		return &tree{one: api.Term{Op: 3}, below: []*tree{o.a7()}}
	}
	return o.a8()
}
func (o *other) a8() *tree {
	if s := o.take("true false", api.TokName); s != "" {
		return &tree{one: api.Term{Op: op(s)}}
	}
	if o.take("in", api.TokName) != "" {
		o.want("(")
		x := &tree{one: api.Term{Op: 11, Name: o.name()}}
		o.want(")")
		return x
	}
	if s := o.take("min max", api.TokName); s != "" {
		o.want("(")
		a := o.a1()
		o.want(",")
		b := o.a1()
		o.want(")")
		return &tree{one: api.Term{Op: op(s)}, below: []*tree{a, b}}
	}
	if o.take("(", api.TokMark) != "" {
		x := o.a1()
		o.want(")")
		return x
	}
	if o.next().Kind == api.TokNum {
		return &tree{one: api.Term{Op: 1, N: o.number()}}
	}
	return &tree{one: api.Term{Op: 2, Name: o.name()}}
}

// name is a name that must be there.
func (o *other) name() string {
	t := o.next()
	if t.Kind != api.TokName || !names.Is(t.Text) {
		o.fail(api.ErrText)
		return ""
	}
	o.past++
	return t.Text
}

// number is what a TokNum says.
func (o *other) number() int {
	s := o.next().Text
	n, err := strconv.Atoi(s)
	if err != nil || strconv.Itoa(n) != s || n < 0 {
		o.fail(api.ErrText)
	} else if n > 1000000 {
		o.fail(api.ErrRange)
	} else {
		o.past++
	}
	return n
}

// checkTokens holds Read at tokens against the other reading; if there is an expression, and nothing behind it, it has a text that is parsed as it, and has this text itself (Ex3).
func checkTokens(t *testing.T, l []api.Token) {
	t.Helper()
	c := cursor.New(l)
	got := expr.Read(c)
	at, e := c.Fault()
	x, o := another(l)
	if e != o.e || at != o.at {
		t.Fatalf("Read of %v: fault %d at %v, not fault %d at %v", l, e, at, o.e, o.at)
	}
	if e != api.OK {
		if len(got) != 0 {
			t.Fatalf("Read of %v: %v, beside fault %d", l, got, e)
		}
		return
	}
	want := x.terms()
	if !slices.Equal(got, want) || c.Next() != o.next() {
		t.Fatalf("Read of %v: %v, then %v; not %v, then %v", l, got, c.Next(), want, o.next())
	}
	if o.past == len(l) {
		checkText(t, want)
	}
}

// checkText: the text of an expression that may be is parsed as it, in this package and by the other reading; its blanks stand as they must, and with no pair of brackets less is it the same.
func checkText(t *testing.T, l []api.Term) {
	t.Helper()
	s, e := expr.Put(l)
	if e != api.OK {
		t.Fatalf("Put(%v): error %d", l, e)
	}
	if got, e := expr.Parse(s); e != api.OK || !slices.Equal(got, l) {
		t.Fatalf("Parse(%q), put of %v: %v, error %d", s, l, got, e)
	}
	tokens := reading.Tokens(t, s)
	tokens = tokens[:len(tokens)-1]
	if is := same(tokens, l); !is {
		t.Fatalf("Put(%v): %q, that is another one", l, s)
	}
	if want := spaced(tokens); s != want {
		t.Fatalf("Put(%v): %q, not %q", l, s, want)
	}
	for first, open := range tokens {
		if open.Text != "(" || first > 0 && slices.Contains([]string{"in", "min", "max"}, tokens[first-1].Text) {
			continue
		}
		last := closing(tokens, first)
		if same(slices.Concat(tokens[:first], tokens[first+1:last], tokens[last+1:]), l) {
			t.Fatalf("Put(%v): %q, with brackets that are not needed", l, s)
		}
	}
}

// same tells whether tokens are an expression, by the other reading, and nothing behind it.
func same(tokens []api.Token, l []api.Term) bool {
	x, o := another(tokens)
	return o.e == api.OK && o.past == len(tokens) && slices.Equal(x.terms(), l)
}

// spaced is what tokens say, with a blank on either side of a sign between two, behind not, and behind a comma.
func spaced(tokens []api.Token) string {
	s, whole := "", false
	for _, one := range tokens {
		// whole: an expression ends just ahead of this token, so that a sign is one between two.
		sign := whole && one.Text != ")" && one.Text != "," && one.Text != "("
		switch {
		case sign:
			s += " " + one.Text + " "
		case one.Text == "not" || one.Text == ",":
			s += one.Text + " "
		default:
			s += one.Text
		}
		whole = !sign && one.Text != "(" && one.Text != "," && one.Text != "not" && one.Text != "-" && one.Text != "in" && one.Text != "min" && one.Text != "max"
	}
	return s
}

// closing is the place of the bracket that closes the one at a place.
func closing(tokens []api.Token, open int) int {
	depth := 0
	for at := open; ; at++ {
		switch tokens[at].Text {
		case "(":
			depth++
		case ")":
			depth--
		}
		if depth == 0 {
			return at
		}
	}
}

// everyList calls with each list of at most so many tokens out of some, each at its own place.
func everyList(most int, of []api.Token, do func(l []api.Token)) {
	var l []api.Token
	var more func()
	more = func() {
		do(l)
		if len(l) == most {
			return
		}
		for _, one := range of {
			one.At = api.Pos{Line: len(l) + 1, Col: 2*len(l) + 1}
			l = append(l, one)
			more()
			l = l[:len(l)-1]
		}
	}
	more()
}

// Ex1, Ex3: all small lists of tokens, against the other reading of the grammar.
func TestAllSmallLists(t *testing.T) {
	check := func(l []api.Token) { checkTokens(t, l) }
	everyList(4, written("a 7 or and not == < + - * ( ) , in min max true false ; any 1000001"), check)
	everyList(5, written("a or and not < + - * ( ) min in ,"), check)
	everyList(7, written("a not < - ( )"), check)
	odd := written("a 7 or + - not ( )")
	for _, kind := range []int{api.TokEnd, api.TokName, api.TokNum, api.TokMark} {
		for _, text := range []string{"or", "+", "-", "not", "(", ")", "a", "7"} {
			odd = append(odd, api.Token{Kind: kind, Text: text})
		}
	}
	everyList(3, odd, check)
}

// Ex1, Ex3: min, max and in with all that may stand in them, against the other reading.
func TestCalls(t *testing.T) {
	for _, s := range []string{"min ( a , b )", "max ( a or b , not c )", "in ( a )", "- min ( - a , ( b ) ) * in ( c )", "min ( in ( a ) , max ( b , c ) ) < ( d )"} {
		l := written(s)
		checkTokens(t, l)
		for at := range l {
			// One token less, one token twice, and one token another one.
			checkTokens(t, slices.Concat(l[:at], l[at+1:]))
			checkTokens(t, slices.Concat(l[:at+1], l[at:]))
			for _, one := range written("a 7 or and not < + - * ( ) , in min max true ; any") {
				one.At = l[at].At
				checkTokens(t, slices.Concat(l[:at], []api.Token{one}, l[at+1:]))
			}
			checkTokens(t, l[:at])
		}
	}
}

// everyExpression calls with each expression of so many terms out of some.
func everyExpression(size int, of []api.Term, do func(l []api.Term)) {
	var l []api.Term
	var more func(open int)
	more = func(open int) {
		if open == 0 {
			if len(l) == size {
				do(l)
			}
			return
		}
		if len(l)+open > size {
			return
		}
		for _, one := range of {
			l = append(l, one)
			more(open - 1 + len(sides()[one.Op].below))
			l = l[:len(l)-1]
		}
	}
	more(1)
}

// Ex2, Ex3: all small expressions: what is put is parsed as it.
func TestAllSmallExpressions(t *testing.T) {
	count := 0
	check := func(l []api.Term) {
		count++
		checkText(t, l)
	}
	for size := 1; size <= 4; size++ {
		everyExpression(size, terms("7 x neg + - * min max true false @open not == != < <= > >= and or"), check)
	}
	for size := 5; size <= 7; size++ {
		everyExpression(size, terms("x neg - * not < and or min"), check)
	}
	if want := 5 + 10 + 345 + 1990 + 232 + 1232 + 6904; count != want {
		t.Errorf("%d expressions, not %d", count, want)
	}
}

// Ex2: the text of an expression with as many brackets as there may be.
func TestGreatTexts(t *testing.T) {
	for _, l := range []string{
		"* or a or b or c or d or e or f or g or h or i or j k l",
		"not and not or not and not or not and a b c d e f",
		"neg + neg + neg + neg + neg + neg a b c d e f",
		"* * or and < + * neg a b c d e f or and < + * neg a b c d e f or and < + * neg a b c d e f",
		"min or and < + * neg 1000000 1000000 1000000 @abcdefghijkl abcdefghijkl abcdefghijkl max min max min max 1 2 3 4 5 6",
	} {
		if e := term.Check(terms(l)); e != api.OK {
			t.Fatalf("the test's own list %q has error %d", l, e)
		}
		checkText(t, terms(l))
	}
}

// Ex1: as many levels of nesting, and as many tokens, as may be.
func TestGreatLists(t *testing.T) {
	const many = 1 << 16
	at := api.Pos{Line: 1, Col: 1}
	run := func(kind int, text string, n int) []api.Token {
		return slices.Repeat([]api.Token{{Kind: kind, Text: text, At: at}}, n)
	}
	open, shut, x := run(api.TokMark, "(", many), run(api.TokMark, ")", many), run(api.TokName, "x", 1)
	behind := api.Token{Kind: api.TokMark, Text: ";", At: api.Pos{Line: 2, Col: 2}}
	checkRead(t, slices.Concat(open, x, shut, []api.Token{behind}), terms("x"), behind)
	for _, c := range []struct {
		l []api.Token
		e api.Errno
	}{
		{slices.Concat(open, x, shut[1:]), api.ErrText},
		{open, api.ErrText},
		{slices.Concat(run(api.TokMark, "-", many), x), api.ErrFull},
		{slices.Concat(run(api.TokName, "not", many), x), api.ErrFull},
		{slices.Concat(slices.Repeat(slices.Concat(run(api.TokMark, "-", 1), open[:1]), many), x, shut), api.ErrFull},
		{slices.Concat(slices.Repeat(slices.Concat(x, run(api.TokMark, "-", 1)), 8*many), x), api.ErrFull},
		{slices.Concat(slices.Repeat(slices.Concat(x, run(api.TokMark, "-", 1), open[:1]), many), x, shut), api.ErrFull},
		{slices.Concat(slices.Repeat(slices.Concat(x, run(api.TokMark, "*", 1)), 8*many), run(api.TokMark, "*", 1)), api.ErrText},
		{slices.Repeat(slices.Concat(x, run(api.TokName, "or", 1)), 8*many), api.ErrText},
	} {
		cur := cursor.New(append(c.l, behind))
		got := expr.Read(cur)
		if place, e := cur.Fault(); len(got) != 0 || e != c.e || place != behind.At && c.l[len(c.l)-1].Text != "*" {
			t.Errorf("Read of %d tokens: %d terms, fault %d at %v, not fault %d", len(c.l), len(got), e, place, c.e)
		}
	}
}

// R3: no call writes to the list that it is handed, nor behind its end; an answer shares no memory with it, nor with another answer.
func TestHandedIn(t *testing.T) {
	spare := api.Term{Op: 99, N: 9, Name: "spare"}
	for _, s := range []string{"- - a b c", "and not < x 2 or a b", "min 1 max 2 @open", "x", "+ x", "x y", "", "neg neg neg neg neg neg neg neg neg neg neg neg x"} {
		back := append(terms(s), spare, spare)
		was := slices.Clone(back)
		expr.Put(back[:len(back)-2])
		if !slices.Equal(back, was) {
			t.Errorf("Put: what was handed in is now %v, not %v", back, was)
		}
	}
	for _, s := range []string{"a - b - c", "not x < 2 and (a or b)", "min(1, in(open)) )", "a +", strings.Repeat("-", 20) + "x"} {
		back := append(reading.Tokens(t, s), api.Token{Kind: 9}, api.Token{Kind: 9})
		was := slices.Clone(back)
		first := expr.Read(cursor.New(back[:len(back)-2]))
		kept := slices.Clone(first)
		second := expr.Read(cursor.New(back[:len(back)-2]))
		if !slices.Equal(back, was) {
			t.Errorf("Read: what was handed in is now %v, not %v", back, was)
		}
		for i := range back {
			back[i] = api.Token{Kind: api.TokMark, Text: "?"}
		}
		for i := range second {
			second[i] = spare
		}
		if !slices.Equal(first, kept) {
			t.Errorf("Read of %q: now %v, not %v", s, first, kept)
		}
		parsed, _ := expr.Parse(s)
		kept = slices.Clone(parsed)
		again, _ := expr.Parse(s)
		for i := range again {
			again[i] = spare
		}
		if third, _ := expr.Parse(s); !slices.Equal(parsed, kept) || !slices.Equal(third, kept) {
			t.Errorf("Parse of %q: now %v, then %v, not %v", s, parsed, third, kept)
		}
	}
}
