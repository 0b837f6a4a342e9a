package act_test

import (
	"maps"
	"math"
	"slices"
	"sort"
	"strconv"
	"strings"
	"testing"

	"semblance/act"
	"semblance/api"
	"semblance/cursor"
	"semblance/eval"
	"semblance/expr"
	"semblance/names"
	"semblance/reading"
	"semblance/term"
)

// values are a list of variables' values, as the calls have them.
type values = [api.MaxVars]int

// parsed is the terms of a text.
func parsed(t *testing.T, s string) []api.Term {
	t.Helper()
	l, e := expr.Parse(s)
	if e != api.OK {
		t.Fatalf("Parse(%q): error %d", s, e)
	}
	return l
}

// acts are those that a text says with a ; between, by another reading than Read's.
func acts(t *testing.T, s string) []api.Act {
	t.Helper()
	var l []api.Act
	for _, part := range strings.Split(s, ";") {
		part = strings.TrimSpace(part)
		if part == "" {
			continue
		}
		if name, is := strings.CutPrefix(part, "any "); is {
			l = append(l, api.Act{Name: name, Any: true})
			continue
		}
		name, text, _ := strings.Cut(part, " := ")
		l = append(l, api.Act{Name: name, Expr: parsed(t, text)})
	}
	return l
}

// anys is so many acts with Any, of x.
func anys(many int) []api.Act { return slices.Repeat([]api.Act{{Name: "x", Any: true}}, many) }

// number is an int that a word says: also least and most.
func number(word string) int {
	switch word {
	case "least":
		return math.MinInt
	case "most":
		return math.MaxInt
	}
	n, err := strconv.Atoi(word)
	if err != nil {
		panic(err)
	}
	return n
}

// given is an Env of variables, each told by its name, its Lo, its Hi and its value, a ; between.
func given(s string) api.Env {
	var env api.Env
	for at, part := range strings.Split(s, ";") {
		words := strings.Fields(part)
		if len(words) == 0 {
			continue
		}
		// A first value that differs from all others: it must not count.
		env.Vars = append(env.Vars, api.Var{Name: words[0], Lo: number(words[1]), Hi: number(words[2]), Init: 77})
		// More variables than may be have no values left.
		if at < len(env.Vals) {
			env.Vals[at] = number(words[3])
		}
	}
	return env
}

// lists are lists of values that a text says, a | between; what is not said is 0.
func lists(s string) []values {
	var l []values
	for part := range strings.SplitSeq(s, "|") {
		var one values
		for at, word := range strings.Fields(part) {
			one[at] = number(word)
		}
		l = append(l, one)
	}
	return l
}

// sameActs tells whether acts are the same; no Expr is the same as an empty one.
func sameActs(a, b []api.Act) bool {
	return slices.EqualFunc(a, b, func(a, b api.Act) bool {
		return a.Name == b.Name && a.Any == b.Any && slices.Equal(a.Expr, b.Expr)
	})
}

// checkRun: Run is that.
func checkRun(t *testing.T, l []api.Act, env api.Env, want []values, fault api.Errno) {
	t.Helper()
	if got, e := act.Run(l, env); e != fault || !slices.Equal(got, want) {
		t.Errorf("Run(%v, %v): %v, error %d, not %v, error %d", l, env, got, e, want, fault)
	}
}

// checkPut: Put is that, and Check tells the same error.
func checkPut(t *testing.T, l []api.Act, want string, fault api.Errno) {
	t.Helper()
	if got, e := act.Put(l); got != want || e != fault {
		t.Errorf("Put(%v): %q, error %d, not %q, error %d", l, got, e, want, fault)
	}
	if e := act.Check(l); e != fault {
		t.Errorf("Check(%v): error %d, not %d", l, e, fault)
	}
}

// checkRead: Read of tokens is that; then that token is next, and there is no fault.
func checkRead(t *testing.T, l []api.Token, want []api.Act, next api.Token) {
	t.Helper()
	reading.Check(t, l, act.Read, sameActs, want, next)
}

// checkFault: Read of tokens is nothing, and that fault.
func checkFault(t *testing.T, l []api.Token, want api.Pos, fault api.Errno) {
	t.Helper()
	reading.CheckFault(t, l, act.Read, sameActs, want, fault)
}

// nots is so many not ahead of x: one deeper than so many.
func nots(many int) []api.Term {
	return append(slices.Repeat([]api.Term{{Op: api.TmNot}}, many), api.Term{Op: api.TmVar, Name: "x"})
}

// sum is a sum of so many x, as flat as may be.
func sum(many int) []api.Term {
	if many == 1 {
		return []api.Term{{Op: api.TmVar, Name: "x"}}
	}
	return slices.Concat([]api.Term{{Op: api.TmAdd}}, sum(many/2), sum(many-many/2))
}

// Ac2: the chapter's example.
func TestExample(t *testing.T) {
	for _, x := range []string{"0", "1", "5", "-9"} {
		checkRun(t, acts(t, "any x; x := x + 1"), given("x 0 1 "+x), lists("1"), api.OK)
	}
	checkRun(t, acts(t, "any x; x := x + 1"), given("x 0 2 0"), lists("1 | 2"), api.OK)
}

// Ac1: acts that may be, and their text, which is read as they are.
func TestTexts(t *testing.T) {
	for _, c := range []struct{ l, text string }{
		{"any x", "any x"},
		{"x := 1", "x := 1"},
		{"x := x + 1", "x := x + 1"},
		{"x := -x", "x := -x"},
		{"x := not (a or b) and in(open)", "x := not (a or b) and in(open)"},
		{"x := min(x, max(y, 3))", "x := min(x, max(y, 3))"},
		{"x := ((1)) - (2 - 3)", "x := 1 - (2 - 3)"},
		{"x := a == b", "x := a == b"},
		{"any abcdefghijkl", "any abcdefghijkl"},
		{"a_0 := 1000000", "a_0 := 1000000"},
		{"any x; any y", "any x, any y"},
		{"any x; any x", "any x, any x"},
		{"x := 1; y := x; x := y", "x := 1, y := x, x := y"},
		{"any x; y := min(x, 2); any y; x := 0 - 1", "any x, y := min(x, 2), any y, x := 0 - 1"},
		{"any anya; ina := nota", "any anya, ina := nota"},
		{"a := 1; b := 2; c := 3; d := 4; any e; any f; any g; h := 8", "a := 1, b := 2, c := 3, d := 4, any e, any f, any g, h := 8"},
	} {
		l := acts(t, c.l)
		checkPut(t, l, c.text, api.OK)
		tokens := reading.Tokens(t, c.text)
		checkRead(t, tokens, l, tokens[len(tokens)-1])
	}
	checkPut(t, nil, "", api.OK)
	checkPut(t, []api.Act{}, "", api.OK)
	// An empty Expr is none.
	checkPut(t, []api.Act{{Name: "x", Any: true, Expr: []api.Term{}}}, "any x", api.OK)
}

// Ac1: which Names are none.
func TestNames(t *testing.T) {
	one := []api.Term{{Op: api.TmNum, N: 1}}
	words := strings.Fields("chart event var leaf or and enter exit on auto any in min max not true false abcdefghijklm 1 1x _x X xX x-y x, := \xff")
	for _, name := range append(words, "", " ", " x", "x ", "x y", "any x") {
		checkPut(t, []api.Act{{Name: name, Any: true}}, "", api.ErrArg)
		checkPut(t, []api.Act{{Name: name, Expr: one}}, "", api.ErrArg)
		checkPut(t, []api.Act{{Name: "x", Any: true}, {Name: name, Any: true}, {Name: "y", Expr: one}}, "", api.ErrArg)
	}
	for _, name := range strings.Fields("x a0 a_ anyx any_ orr tru abcdefghijkl") {
		checkPut(t, []api.Act{{Name: name, Any: true}}, "any "+name, api.OK)
		checkPut(t, []api.Act{{Name: name, Expr: one}}, name+" := 1", api.OK)
	}
}

// fault is an Expr, and why it may not be.
type fault struct {
	l []api.Term
	e api.Errno
}

// faults are Exprs that may be, and such as may not.
func faults() []fault {
	return []fault{
		{[]api.Term{{Op: api.TmNum, N: 1}}, api.OK}, {nots(11), api.OK}, {sum(20), api.OK}, {[]api.Term{{Op: api.TmTrue}}, api.OK},
		{nil, api.ErrArg}, {[]api.Term{}, api.ErrArg}, {[]api.Term{{}}, api.ErrArg}, {[]api.Term{{Op: api.TmAdd}}, api.ErrArg}, {make([]api.Term, 40), api.ErrArg},
		{[]api.Term{{Op: api.TmNum}, {Op: api.TmNum}}, api.ErrArg}, {[]api.Term{{Op: api.TmVar, Name: "any"}}, api.ErrArg}, {[]api.Term{{Op: api.TmNum, N: -1}}, api.ErrArg}, {[]api.Term{{Op: math.MinInt}}, api.ErrArg},
		{nots(12), api.ErrDeep}, {nots(39), api.ErrDeep},
		{nots(40), api.ErrFull}, {sum(21), api.ErrFull}, {make([]api.Term, 41), api.ErrFull}, {nots(100000), api.ErrFull},
	}
}

// Ac1: an Expr's own error, but ErrArg beside Any, or where Name is no name.
func TestExprs(t *testing.T) {
	for _, f := range faults() {
		text, e := expr.Put(f.l)
		if e != f.e {
			t.Fatalf("the test's own Expr %v has error %d", f.l, e)
		}
		if e == api.OK {
			text = "x := " + text
		}
		checkPut(t, []api.Act{{Name: "x", Expr: f.l}}, text, f.e)
		beside, whole := api.ErrArg, ""
		if len(f.l) == 0 {
			beside, whole = api.OK, "any x"
		}
		checkPut(t, []api.Act{{Name: "x", Any: true, Expr: f.l}}, whole, beside)
		for _, name := range []string{"", "or", "abcdefghijklm"} {
			checkPut(t, []api.Act{{Name: name, Expr: f.l}}, "", api.ErrArg)
			checkPut(t, []api.Act{{Name: name, Any: true, Expr: f.l}}, "", api.ErrArg)
		}
	}
	checkPut(t, []api.Act{{}}, "", api.ErrArg)
}

// Ac1: the error of the first act that may not be; too many acts come ahead of it.
func TestFirstThatMayNotBe(t *testing.T) {
	good := api.Act{Name: "x", Any: true}
	for _, f := range faults() {
		for _, g := range faults() {
			want := f.e
			if want == api.OK {
				want = g.e
			}
			first, second := api.Act{Name: "x", Expr: f.l}, api.Act{Name: "y", Expr: g.l}
			for _, l := range [][]api.Act{{first, second}, {first, good, second}, {good, first, second}, append(anys(6), first, second)} {
				if e := act.Check(l); e != want {
					t.Errorf("Check(%v): error %d, not %d", l, e, want)
				}
			}
			for _, l := range [][]api.Act{append(anys(7), first, second), append([]api.Act{first, second}, anys(7)...), append(anys(99), first, second)} {
				checkPut(t, l, "", api.ErrFull)
			}
		}
	}
}

// Ac1: just as many acts as may be, and one more.
func TestMostActs(t *testing.T) {
	checkPut(t, anys(7), strings.Repeat("any x, ", 6)+"any x", api.OK)
	checkPut(t, anys(8), strings.Repeat("any x, ", 7)+"any x", api.OK)
	checkPut(t, anys(9), "", api.ErrFull)
	checkPut(t, make([]api.Act, 8), "", api.ErrArg)
	checkPut(t, make([]api.Act, 9), "", api.ErrFull)
	checkPut(t, anys(100000), "", api.ErrFull)
	full := slices.Repeat([]api.Act{{Name: "x", Expr: sum(20)}}, 8)
	s, e := act.Put(full)
	if e != api.OK {
		t.Fatalf("Put(%v): error %d", full, e)
	}
	l := reading.Tokens(t, s)
	checkRead(t, l, full, l[len(l)-1])
}

// Ac1: texts that are no acts: the fault, and the token that is not as it must be.
func TestFaults(t *testing.T) {
	eight := strings.Repeat("any x, ", 7) + "any x"
	for _, c := range []struct {
		s    string
		line int
		col  int
		e    api.Errno
	}{
		{"", 1, 1, api.ErrText}, {" # any x\n ", 2, 2, api.ErrText},
		// What is missing, or another thing, behind any.
		{"any", 1, 4, api.ErrText}, {"any ;", 1, 5, api.ErrText}, {"any,", 1, 4, api.ErrText}, {"any any", 1, 5, api.ErrText}, {"any or", 1, 5, api.ErrText}, {"any 1", 1, 5, api.ErrText}, {"any := 1", 1, 5, api.ErrText}, {"any (x)", 1, 5, api.ErrText}, {"any true", 1, 5, api.ErrText},
		// What is no name, ahead of :=.
		{":= 1", 1, 1, api.ErrText}, {"1 := 1", 1, 1, api.ErrText}, {"or := 1", 1, 1, api.ErrText}, {"true := 1", 1, 1, api.ErrText}, {"(x) := 1", 1, 1, api.ErrText}, {", any x", 1, 1, api.ErrText}, {"; any x", 1, 1, api.ErrText}, {"-> x", 1, 1, api.ErrText}, {"not any x", 1, 1, api.ErrText}, {"1000001 := 1", 1, 1, api.ErrText},
		// What is no :=.
		{"x", 1, 2, api.ErrText}, {"x 1", 1, 3, api.ErrText}, {"x = 1", 1, 3, api.ErrText}, {"x == 1", 1, 3, api.ErrText}, {"x y := 1", 1, 3, api.ErrText}, {"x, y := 1", 1, 2, api.ErrText}, {"x any y", 1, 3, api.ErrText}, {"x\n;", 2, 1, api.ErrText}, {"x = := 1", 1, 3, api.ErrText},
		// What is no expression.
		{"x :=", 1, 5, api.ErrText}, {"x := ;", 1, 6, api.ErrText}, {"x := , y := 1", 1, 6, api.ErrText}, {"x := any", 1, 6, api.ErrText}, {"x := any y", 1, 6, api.ErrText}, {"x := := 1", 1, 6, api.ErrText}, {"x := or", 1, 6, api.ErrText}, {"x := 1 +", 1, 9, api.ErrText}, {"x := (1", 1, 8, api.ErrText}, {"x := min(1)", 1, 11, api.ErrText}, {"x := 01", 1, 6, api.ErrText}, {"x := 1000001", 1, 6, api.ErrRange}, {"x := in(1)", 1, 9, api.ErrText}, {"x := not\n", 2, 1, api.ErrText},
		// Behind a comma there is one more.
		{"any x,", 1, 7, api.ErrText}, {"any x, ;", 1, 8, api.ErrText}, {"x := 1,", 1, 8, api.ErrText}, {"x := 1, -> y", 1, 9, api.ErrText}, {"any x,, any y", 1, 7, api.ErrText}, {"any x, y", 1, 9, api.ErrText}, {"any x, any", 1, 11, api.ErrText}, {"any x, y :=", 1, 12, api.ErrText}, {"any x, y := 1000001", 1, 13, api.ErrRange}, {"any x, 1", 1, 8, api.ErrText}, {"any x, any y, or", 1, 15, api.ErrText}, {"any x, any y, any z,\n\n ]", 3, 2, api.ErrText},
		// The first one of several.
		{"x := 1000001, or", 1, 6, api.ErrRange}, {"any or, x := 1000001", 1, 5, api.ErrText}, {"x = 1000001", 1, 3, api.ErrText}, {"x := 1000001 :=", 1, 6, api.ErrRange}, {"x := 1, y := 1000001, z", 1, 14, api.ErrRange},
		// Of an Expr with too much in it, at the token behind it.
		{"x := " + strings.Repeat("-", 12) + "x", 1, 19, api.ErrDeep}, {"x := " + strings.Repeat("-", 12) + "x, or", 1, 19, api.ErrDeep}, {"x := " + strings.Repeat("-", 40) + "x ;", 1, 48, api.ErrFull}, {"any x, y := " + strings.Repeat("-", 40) + "x any", 1, 55, api.ErrFull}, {"x := " + strings.Repeat("-", 12) + "x, y := " + strings.Repeat("-", 40) + "x", 1, 19, api.ErrDeep}, {"x := " + strings.Repeat("-", 40) + "x or", 1, 50, api.ErrText},
		// More acts than may be: at the token behind the comma, whatever it is.
		{eight + ",", 1, 56, api.ErrFull}, {eight + ", any x", 1, 57, api.ErrFull}, {eight + ", y := 1", 1, 57, api.ErrFull}, {eight + ", or", 1, 57, api.ErrFull}, {eight + ", ;", 1, 57, api.ErrFull}, {eight + ",,", 1, 56, api.ErrFull}, {eight + ", 1000001", 1, 57, api.ErrFull}, {eight + ",\n:=", 2, 1, api.ErrFull}, {eight + strings.Repeat(", any x", 1000), 1, 57, api.ErrFull}, {strings.Repeat("x := 1, ", 8) + "x := 1", 1, 65, api.ErrFull}, {strings.Repeat("x := 1, ", 8) + "x := 1000001", 1, 65, api.ErrFull},
		{strings.Repeat("any x, ", 7) + "any or, any x", 1, 54, api.ErrText}, {strings.Repeat("any x, ", 7) + "x := 1000001, any x", 1, 55, api.ErrRange}, {strings.Repeat("any x, ", 7), 1, 50, api.ErrText}, {strings.Repeat("any x, ", 7) + ", any x", 1, 50, api.ErrText},
	} {
		checkFault(t, reading.Tokens(t, c.s), api.Pos{Line: c.line, Col: c.col}, c.e)
	}
}

// Ac1: what stands behind the acts is left, whatever it is.
func TestWhatStandsBehind(t *testing.T) {
	eight := strings.Repeat("any x, ", 7) + "any x"
	for _, c := range []struct {
		s, l string
		read int
	}{
		{"any x y", "any x", 2}, {"any x any y", "any x", 2}, {"any x := 1", "any x", 2}, {"any x;", "any x", 2}, {"any x + 1", "any x", 2}, {"any x 1", "any x", 2}, {"any x or", "any x", 2}, {"any x -> y;", "any x", 2}, {"any x = 1", "any x", 2},
		{"x := 1;", "x := 1", 3}, {"x := 1 -> y;", "x := 1", 3}, {"x := 1 y := 2", "x := 1", 3}, {"x := 1 any y", "x := 1", 3}, {"x := y := 2", "x := y", 3}, {"x := a < b < c", "x := a < b", 5}, {"x := 1)", "x := 1", 3}, {"x := 1 1000001", "x := 1", 3}, {"x := a not b", "x := a", 3},
		{"x := min(1, 2), any y;", "x := min(1, 2); any y", 11}, {"any x, y := x * 2 ]", "any x; y := x * 2", 8}, {"any x, any y, any z; any w", "any x; any y; any z", 8},
		{eight + " any x", strings.ReplaceAll(eight, ",", ";"), 23}, {eight + ";", strings.ReplaceAll(eight, ",", ";"), 23}, {eight + " -> x", strings.ReplaceAll(eight, ",", ";"), 23},
	} {
		l := reading.Tokens(t, c.s)
		checkRead(t, l, acts(t, c.l), l[c.read])
	}
	// Acts behind others, by the same cursor.
	c := cursor.New(reading.Tokens(t, "any x, x := 1 any y y := 2; any z"))
	for _, want := range []string{"any x; x := 1", "any y", "y := 2"} {
		if got := act.Read(c); !sameActs(got, acts(t, want)) {
			t.Errorf("Read: %v, not %s", got, want)
		}
	}
	if !c.Is(api.TokMark, ";") {
		t.Errorf("Read: then %v", c.Next())
	}
	if got := act.Read(c); len(got) != 0 || c.Good() {
		t.Errorf("Read at a semicolon: %v", got)
	}
}

// Ac1: a cursor with a fault already keeps it; at the end there is ErrText; nobody's has its own.
func TestCursors(t *testing.T) {
	c := cursor.New(reading.Tokens(t, "any y; any x"))
	act.Read(c)
	c.Want(api.TokMark, ";")
	c.Fail(api.ErrLoop)
	if got := act.Read(c); len(got) != 0 {
		t.Errorf("Read with a fault: %v", got)
	}
	if at, e := c.Fault(); at != (api.Pos{Line: 1, Col: 8}) || e != api.ErrLoop {
		t.Errorf("Read with a fault: fault %d at %v", e, at)
	}
	checkFault(t, nil, api.Pos{}, api.ErrText)
	checkFault(t, []api.Token{{Kind: api.TokEnd, At: api.Pos{Line: 3, Col: 4}}}, api.Pos{Line: 3, Col: 4}, api.ErrText)
	// Behind the last token stands an end of its place, of a list without one too.
	bare := reading.Tokens(t, "any x, any")
	checkFault(t, bare[:4], bare[3].At, api.ErrText)
	checkFault(t, bare[:3], bare[2].At, api.ErrText)
	checkRead(t, bare[:2], anys(1), api.Token{At: bare[1].At})
	checkFault(t, bare[:1], bare[0].At, api.ErrText)
	for _, c := range []*cursor.Cursor{nil, {}} {
		if got := act.Read(c); len(got) != 0 {
			t.Errorf("Read of nobody's: %v", got)
		}
		if at, e := c.Fault(); at != (api.Pos{}) || e != api.ErrState {
			t.Errorf("Read of nobody's: fault %d at %v", e, at)
		}
	}
}

// outcome is what acts' tokens are by another reading: the acts, the place of the token behind them; else a fault, and the place of its token.
type outcome struct {
	l  []api.Act
	at int
	e  api.Errno
}

// another reads acts by the chapter's words, of expressions just a sum of names and numbers below 10; an end must stand behind.
func another(l []api.Token) outcome {
	is := func(at, kind int, text string) bool { return l[at].Kind == kind && l[at].Text == text }
	name := func(at int) bool { return l[at].Kind == api.TokName && names.Is(l[at].Text) }
	var all []api.Act
	for at := 0; ; at++ {
		if len(all) == 8 {
			return outcome{nil, at, api.ErrFull}
		}
		if is(at, api.TokName, "any") {
			if !name(at + 1) {
				return outcome{nil, at + 1, api.ErrText}
			}
			all = append(all, api.Act{Name: l[at+1].Text, Any: true})
			at += 2
		} else {
			if !name(at) {
				return outcome{nil, at, api.ErrText}
			}
			if !is(at+1, api.TokMark, ":=") {
				return outcome{nil, at + 1, api.ErrText}
			}
			one := api.Act{Name: l[at].Text}
			for at += 2; ; at++ {
				switch {
				case name(at):
					one.Expr = append(one.Expr, api.Term{Op: api.TmVar, Name: l[at].Text})
				case l[at].Kind == api.TokNum:
					one.Expr = append(one.Expr, api.Term{Op: api.TmNum, N: int(l[at].Text[0] - '0')})
				default:
					return outcome{nil, at, api.ErrText}
				}
				at++
				if l[at].Text != "+" {
					break
				}
				one.Expr = slices.Insert(one.Expr, 0, api.Term{Op: api.TmAdd})
			}
			all = append(all, one)
		}
		if !is(at, api.TokMark, ",") {
			return outcome{all, at, api.OK}
		}
	}
}

// every calls with each list of at most so many out of some.
func every[T any](most int, of []T, do func(l []T)) {
	reading.Every(most, of, func(l []T) bool {
		do(l)
		return true
	})
}

// checkTokens: Read of tokens is what the other reading says.
func checkTokens(t *testing.T, l []api.Token) outcome {
	t.Helper()
	l = reading.Placed(l)
	want := another(l)
	if want.e != api.OK {
		checkFault(t, l, l[want.at].At, want.e)
	} else {
		checkRead(t, l, want.l, l[want.at])
	}
	return want
}

// Ac1: Read of all small lists of tokens, against the other reading.
func TestAllSmallTokens(t *testing.T) {
	told := map[api.Errno]int{}
	check := func(l []api.Token) { told[checkTokens(t, l).e]++ }
	for _, c := range []struct {
		most  int
		words string
	}{
		{4, "any x on := , 1 + ; !any !x !:= !, !1 !"}, {6, "any x := , 1 +"}, {8, "any x ,"}, {8, "x := ,"},
	} {
		every(c.most, reading.Words(c.words), check)
	}
	for _, e := range []api.Errno{api.OK, api.ErrText} {
		if told[e] < 1000 {
			t.Errorf("error %d is told just %d times", e, told[e])
		}
	}
}

// Ac1: one token is missing, doubled, or another one, at each place of acts that may be; also of as many as may be, and of more.
func TestOneTokenOff(t *testing.T) {
	told := map[api.Errno]int{}
	for _, s := range []string{
		"any x", "x := 1", "any x, y := x + 1, any z, z := 2", "x := x + 1 + y, y := 2, any x ;",
		"any a, any b, any c, any d, any e, any f, any g, any h", "a := 1, b := 2, c := 3, d := 4, any e, f := a + b, any g, h := 1 + 2",
		"any a, any b, any c, any d, any e, any f, any g, any h, any i", "any a, b := 1, any a, b := 1, any a, b := 1, any a, b := 1, a := 1 + 2, any b",
	} {
		whole := reading.Tokens(t, s)
		whole = whole[:len(whole)-1]
		told[checkTokens(t, whole).e]++
		for at := range whole {
			told[checkTokens(t, slices.Concat(whole[:at], whole[at+1:])).e]++
			told[checkTokens(t, whole[:at]).e]++
			for _, kind := range []int{api.TokEnd, api.TokName, api.TokNum, api.TokMark, 4, -1, math.MaxInt, math.MinInt} {
				// A TokNum or a + of what is neither is nothing that the other reading knows.
				if whole[at].Text == "+" || kind == api.TokNum {
					continue
				}
				l := slices.Clone(whole)
				l[at].Kind = kind
				told[checkTokens(t, l).e]++
			}
			for _, other := range reading.Words("any x on := , 1 + ; = -> ) ! !any !x !:= !, !1") {
				told[checkTokens(t, slices.Concat(whole[:at], []api.Token{other}, whole[at+1:])).e]++
				told[checkTokens(t, slices.Concat(whole[:at], []api.Token{other}, whole[at:])).e]++
			}
		}
	}
	for _, e := range []api.Errno{api.OK, api.ErrText, api.ErrFull} {
		if told[e] < 100 {
			t.Errorf("error %d is told just %d times", e, told[e])
		}
	}
}

// Ac2: what an act with Any gives: each number of its variable's range, nothing else changed.
func TestAny(t *testing.T) {
	for _, c := range []struct{ l, env, want string }{
		{"any x", "x 0 3 2", "0 | 1 | 2 | 3"},
		{"any x", "x -2 1 0", "-2 | -1 | 0 | 1"},
		{"any x", "x -9 -7 -8", "-9 | -8 | -7"},
		{"any x", "x 5 5 5", "5"}, {"any x", "x 5 5 -100", "5"}, {"any x", "x 0 0 7", "0"}, {"any x", "x 1 2 most", "1 | 2"}, {"any x", "x 1 2 least", "1 | 2"},
		{"any y", "x 0 3 7; y 0 2 1", "7 0 | 7 1 | 7 2"}, {"any y", "x 0 3 least; y 0 2 9; z 0 1 most", "least 0 most | least 1 most | least 2 most"},
		{"any d", "a 0 1 1; b 0 1 2; c 0 1 3; d 5 6 4", "1 2 3 5 | 1 2 3 6"},
		// Several: of one variable and of two, in either order.
		{"any x; any x", "x 0 2 0", "0 | 1 | 2"}, {"any x; any x; any x; any x; any x; any x; any x; any x", "x 0 1 0", "0 | 1"},
		{"any x; any y", "x 0 1 9; y 3 5 9", "0 3 | 0 4 | 0 5 | 1 3 | 1 4 | 1 5"}, {"any y; any x", "x 0 1 9; y 3 5 9", "0 3 | 0 4 | 0 5 | 1 3 | 1 4 | 1 5"},
		{"any z; any x; any y", "x 0 1 9; y -1 0 9; z 7 7 9", "0 -1 7 | 0 0 7 | 1 -1 7 | 1 0 7"},
		// The first variable of a Name.
		{"any x", "x 0 1 5; x 6 9 7", "0 7 | 1 7"}, {"any x", "y 3 4 5; x 0 1 5; x 6 9 7; x 1 0 8", "5 0 7 8 | 5 1 7 8"},
		// Bounds that are no values, up to the least and the greatest int.
		{"any x", "x 1000000 1000002 0", "1000000 | 1000001 | 1000002"}, {"any x", "x -1000002 -1000000 0", "-1000002 | -1000001 | -1000000"},
		{"any x", "x 9223372036854775805 most 0", "9223372036854775805 | 9223372036854775806 | most"}, {"any x", "x most most 0", "most"},
		{"any x", "x least -9223372036854775806 0", "least | -9223372036854775807 | -9223372036854775806"}, {"any x", "x least least 0", "least"},
	} {
		checkRun(t, acts(t, c.l), given(c.env), lists(c.want), api.OK)
	}
}

// Ac2: how many numbers the range of an act with Any may have.
func TestSpan(t *testing.T) {
	for _, c := range []struct {
		lo, hi, many int
	}{
		{0, 63, 64}, {0, 62, 63}, {-32, 31, 64}, {-63, 0, 64}, {1, 1, 1}, {math.MaxInt - 63, math.MaxInt, 64}, {math.MinInt, math.MinInt + 63, 64}, {math.MaxInt, math.MaxInt, 1}, {math.MinInt, math.MinInt, 1},
		{0, 64, 0}, {-1, 63, 0}, {-32, 32, 0}, {0, 1000, 0}, {-1000000, 1000000, 0}, {math.MaxInt - 64, math.MaxInt, 0}, {math.MinInt, math.MinInt + 64, 0},
		{1, 0, 0}, {0, -1, 0}, {5, -5, 0}, {64, 0, 0}, {100, 0, 0}, {math.MaxInt, math.MaxInt - 1, 0}, {math.MinInt + 1, math.MinInt, 0},
		// The difference is no int.
		{math.MinInt, math.MaxInt, 0}, {-1, math.MaxInt, 0}, {-2, math.MaxInt, 0}, {math.MinInt, 0, 0}, {math.MinInt, 63, 0}, {math.MinInt, -1, 0}, {-1 << 62, 1 << 62, 0}, {-1<<62 - 1, 1 << 62, 0}, {math.MinInt + 10, math.MaxInt - 10, 0},
		{math.MaxInt, math.MinInt, 0}, {math.MaxInt, math.MinInt + 62, 0}, {math.MaxInt - 30, math.MinInt + 30, 0}, {math.MaxInt, -1, 0}, {1, math.MinInt, 0}, {0, math.MinInt, 0},
	} {
		env := api.Env{Vars: []api.Var{{Name: "y", Lo: 0, Hi: 1}, {Name: "x", Lo: c.lo, Hi: c.hi}}, Vals: values{5, 6, 7, 8}}
		var want []values
		for n := range c.many {
			want = append(want, values{5, c.lo + n, 7, 8})
		}
		fault := api.OK
		if c.many == 0 {
			fault = api.ErrArg
		}
		checkRun(t, anys(1), env, want, fault)
		// An act without Any doesn't ask how many numbers there are.
		if _, e := act.Run(acts(t, "x := 1"), env); e != api.OK {
			t.Errorf("Run of x := 1, from %d to %d: error %d", c.lo, c.hi, e)
		}
	}
}

// Ac2: what an act with an Expr gives, at least Lo and at most Hi.
func TestExpr(t *testing.T) {
	for _, c := range []struct{ l, env, want string }{
		{"x := 1", "x 0 3 2", "1"}, {"x := x", "x 0 3 2", "2"}, {"x := x + 1", "x 0 3 2", "3"}, {"x := x - 1", "x 0 3 2", "1"},
		// At the bounds and beyond them.
		{"x := 0", "x 0 3 2", "0"}, {"x := 3", "x 0 3 2", "3"}, {"x := 4", "x 0 3 2", "3"}, {"x := 1000000", "x 0 3 2", "3"}, {"x := -1", "x 0 3 2", "0"}, {"x := -1000000", "x 0 3 2", "0"}, {"x := x + 1", "x 0 3 3", "3"}, {"x := x - 1", "x 0 3 0", "0"},
		{"x := -3", "x -3 -1 -2", "-3"}, {"x := -4", "x -3 -1 -2", "-3"}, {"x := -1", "x -3 -1 -2", "-1"}, {"x := 0", "x -3 -1 -2", "-1"}, {"x := 8", "x 5 5 0", "5"}, {"x := 2", "x 5 5 0", "5"}, {"x := 5", "x 5 5 0", "5"},
		// What was not in the range comes into it.
		{"x := x", "x 0 3 9", "3"}, {"x := x", "x 0 3 -9", "0"}, {"x := x - 8", "x 0 3 9", "1"},
		// Lo above Hi: below Lo it is Lo; else it is above Hi.
		{"x := 4", "x 5 3 0", "5"}, {"x := 3", "x 5 3 0", "5"}, {"x := 2", "x 5 3 0", "5"}, {"x := 5", "x 5 3 0", "3"}, {"x := 6", "x 5 3 0", "3"},
		// Bounds, and values, that are none.
		{"x := 7", "x least most 0", "7"}, {"x := y", "x least most 0; y 0 1 most", "1000000 most"}, {"x := y", "x least most 0; y 0 1 least", "-1000000 least"}, {"x := y + 1", "x -1000000 1000000 0; y 0 1 most", "1000000 most"}, {"x := 7", "x 1000001 1000005 0", "1000001"}, {"x := 7", "x most most 0", "most"}, {"x := 7", "x least least 0", "least"}, {"x := 7", "x most least 0", "most"}, {"x := 7", "x least -1000001 0", "-1000001"},
		// Of the other variables nothing changes; which is told by the first of a Name.
		{"y := x", "x 0 3 2; y 0 3 1; z 0 3 9", "2 2 9"}, {"x := y", "x 0 3 2; y 0 3 1; z 0 3 9", "1 1 9"}, {"d := a + b + c", "a 0 9 1; b 0 9 2; c 0 9 3; d 0 9 9", "1 2 3 6"}, {"z := 1", "x 0 3 most; y 0 3 least; z 0 3 9", "most least 1"},
		{"x := x + 1", "x 0 3 2; x 5 9 7", "3 7"}, {"x := 9", "x 0 3 2; x 5 9 7", "3 7"}, {"y := x", "y 0 9 0; x 0 3 2; x 5 9 7", "2 2 7"},
		// Several, of one variable twice, of each other's, in either order.
		{"x := x + 1; x := x + 1", "x 0 9 2", "4"}, {"x := x + 1; x := x * 2", "x 0 9 2", "6"}, {"x := x * 2; x := x + 1", "x 0 9 2", "5"}, {"x := 5; x := 1", "x 0 9 2", "1"},
		{"x := x + 5; x := x - 5", "x 0 3 2", "0"}, {"x := x + 5 - 5", "x 0 3 2", "2"},
		{"x := y; y := x", "x 0 9 2; y 0 9 5", "5 5"}, {"y := x; x := y", "x 0 9 2; y 0 9 5", "2 2"}, {"x := x + y; y := x - y; x := x - y", "x 0 9 2; y 0 9 5", "5 2"}, {"y := x + 1; x := y + 1", "x 0 9 2; y 0 9 5", "4 3"},
		{"a := b; b := c; c := d; d := a", "a 0 9 1; b 0 9 2; c 0 9 3; d 0 9 4", "2 3 4 2"},
		{"x := x + 1; x := x + 1; x := x + 1; x := x + 1; x := x + 1; x := x + 1; x := x + 1; x := x + 1", "x 0 9 0", "8"},
		{"y := min(x, 3) * max(x, 3) - -x", "x 0 9 2; y -99 99 0", "2 8"},
	} {
		checkRun(t, acts(t, c.l), given(c.env), lists(c.want), api.OK)
	}
}

// Ac2: acts of both kinds: each by all values that those ahead came to; in order, each list once.
func TestBothKinds(t *testing.T) {
	for _, c := range []struct{ l, env, want string }{
		{"any x; x := x + 1", "x 0 3 0", "1 | 2 | 3"}, {"x := x + 1; any x", "x 0 3 0", "0 | 1 | 2 | 3"}, {"any x; x := 2", "x 0 3 0", "2"}, {"any x; x := 3 - x", "x 0 3 0", "0 | 1 | 2 | 3"},
		{"any x; x := x * x", "x -3 9 0", "0 | 1 | 4 | 9"}, {"any x; x := min(x, 1)", "x 0 9 0", "0 | 1"}, {"any x; x := max(x, 8)", "x 0 9 0", "8 | 9"}, {"any x; x := 0; any x", "x 0 2 0", "0 | 1 | 2"},
		{"any x; y := x", "x 0 2 0; y 0 9 5", "0 0 | 1 1 | 2 2"}, {"y := x; any x", "x 0 2 1; y 0 9 5", "0 1 | 1 1 | 2 1"}, {"any x; y := -x", "x 0 2 0; y -9 9 5", "0 0 | 1 -1 | 2 -2"},
		{"any y; x := -y", "x -9 9 0; y 0 2 5", "-2 2 | -1 1 | 0 0"}, {"any y; x := -y; y := 7", "x -9 9 0; y 0 9 5", "-9 7 | -8 7 | -7 7 | -6 7 | -5 7 | -4 7 | -3 7 | -2 7 | -1 7 | 0 7"},
		{"any x; any y; z := x + y; x := 0; y := 0", "x 0 2 0; y 0 2 0; z 0 9 0", "0 0 0 | 0 0 1 | 0 0 2 | 0 0 3 | 0 0 4"}, {"any x; any y; x := x + y; y := 0", "x 0 2 0; y 0 2 0", "0 | 1 | 2"},
		{"any x; y := x; any x", "x 0 1 0; y 0 9 5", "0 0 | 0 1 | 1 0 | 1 1"}, {"any x; x := 1 - x; any y; y := y * x", "x 0 1 0; y 2 3 0", "0 2 | 1 2 | 1 3"}, {"any x; any y; y := y * x", "x 0 1 0; y -1 1 0", "0 0 | 1 -1 | 1 0 | 1 1"},
		{"any d; a := -d", "a -2 0 0; b 0 1 5; c 0 1 6; d 1 2 0", "-2 5 6 2 | -1 5 6 1"},
	} {
		checkRun(t, acts(t, c.l), given(c.env), lists(c.want), api.OK)
	}
}

// Ac2: of no acts, the Env's values alone, whatever they are.
func TestNoActs(t *testing.T) {
	for _, vals := range []values{{}, {1, 2, 3, 4}, {math.MinInt, math.MaxInt, -1000001, 1000001}} {
		for _, l := range [][]api.Act{nil, {}, make([]api.Act, 0, 9)} {
			checkRun(t, l, api.Env{Vals: vals}, []values{vals}, api.OK)
			checkRun(t, l, api.Env{Vars: []api.Var{{Name: "x", Lo: 5, Hi: 3}}, Vals: vals, In: []string{"open"}}, []values{vals}, api.OK)
			checkRun(t, l, api.Env{Vars: make([]api.Var, 4), Vals: vals}, []values{vals}, api.OK)
			checkRun(t, l, api.Env{Vars: make([]api.Var, 5), Vals: vals}, nil, api.ErrArg)
		}
	}
}

// Ac2: just as many lists behind an act as may be, and one more; lists that are the same count once.
func TestMostLists(t *testing.T) {
	for _, c := range []struct {
		l, env string
		// many is how many lists there are; 0: more than may be.
		many int
	}{
		{"any x", "x 0 63 0", 64}, {"any x; any y", "x 1 8 0; y 1 8 0", 64}, {"any x; any y", "x 1 2 0; y 1 32 0", 64}, {"any x; any y", "x 0 63 0; y 5 5 0", 64}, {"any y; any x", "x 0 63 0; y 5 5 0", 64}, {"any x; any y", "x 1 7 0; y 1 9 0", 63},
		{"any a; any b; any c; any d", "a 0 3 0; b 0 3 0; c 0 1 0; d 0 1 0", 64}, {"any a; any b; any c; any d", "a 0 3 0; b 0 3 0; c 0 1 0; d 0 2 0", 0},
		{"any x; any y", "x 1 5 0; y 1 13 0", 0}, {"any y; any x", "x 1 5 0; y 1 13 0", 0}, {"any x; any y", "x 0 63 0; y 0 1 0", 0}, {"any x; any y", "x 0 63 0; y 0 63 0", 0},
		// Many ways, not so many lists.
		{"any x; any x", "x 0 63 0", 64}, {"any x; any x; any x; any x; any x; any x; any x; any x", "x 0 63 0", 64}, {"any x; x := x + 1", "x 0 63 0", 63}, {"any x; y := x", "x 0 63 0; y 0 63 0", 64}, {"any x; y := x; x := 0; any x", "x 0 1 0; y 0 63 0", 4},
		{"any x; x := min(x, 31); any y", "x 0 63 0; y 0 1 0", 64}, {"any x; x := min(x, 32); any y", "x 0 63 0; y 0 1 0", 0}, {"any x; any y; any x; any y", "x 1 8 0; y 1 8 0", 64}, {"any x; y := x; any x", "x 0 7 0; y 0 9 0", 64}, {"any x; y := x; any x", "x 0 8 0; y 0 9 0", 0},
		// Too many behind one act, though none behind the next one.
		{"any x; any y; y := 0", "x 1 5 0; y 1 13 0", 0}, {"any x; any y; x := 0; y := 0", "x 0 63 0; y 0 1 0", 0}, {"any x; x := 0; any y", "x 0 63 0; y 0 63 0", 64},
	} {
		l, env := acts(t, c.l), given(c.env)
		got, e := act.Run(l, env)
		if c.many == 0 {
			checkRun(t, l, env, nil, api.ErrWide)
		} else if e != api.OK || len(got) != c.many {
			t.Errorf("Run(%s, %s): %d lists, error %d, not %d lists", c.l, c.env, len(got), e, c.many)
		}
	}
}

// Ac2: the error that comes first, of one act and of several.
func TestFirstError(t *testing.T) {
	const env = "x 0 3 2; y 3 0 1; w 0 63 0; v 0 64 0"
	for _, c := range []struct {
		l string
		e api.Errno
	}{
		// One act.
		{"any z", api.ErrNone}, {"z := 1", api.ErrNone}, {"z := true", api.ErrNone}, {"z := not 1", api.ErrNone}, {"z := z", api.ErrNone}, {"xx := 1", api.ErrNone},
		{"any y", api.ErrArg}, {"any v", api.ErrArg}, {"y := 1", api.OK}, {"v := 1", api.OK},
		{"x := z", api.ErrNone}, {"x := x + z", api.ErrNone}, {"x := 0 * z", api.ErrNone}, {"x := z == z", api.ErrNone}, {"x := not z < 1", api.ErrNone}, {"x := true or z < 1", api.ErrNone}, {"y := z", api.ErrNone},
		{"x := not 1", api.ErrType}, {"x := true + 1", api.ErrType}, {"x := z + true", api.ErrType}, {"x := -(z < 1)", api.ErrType}, {"x := 1 and 2", api.ErrType},
		{"x := true", api.ErrType}, {"x := false", api.ErrType}, {"x := in(open)", api.ErrType}, {"x := 1 < 2", api.ErrType}, {"x := x == x and not true", api.ErrType},
		// Two acts behind one another: the first one's.
		{"x := 1; any z", api.ErrNone}, {"x := 1; any y", api.ErrArg}, {"x := 1; x := true", api.ErrType}, {"any w; any x", api.ErrWide},
		{"any z; any y", api.ErrNone}, {"any y; any z", api.ErrArg}, {"any z; x := true", api.ErrNone}, {"x := true; any z", api.ErrType}, {"any y; x := true", api.ErrArg}, {"x := true; any y", api.ErrType}, {"x := z; any v", api.ErrNone}, {"any v; x := z", api.ErrArg}, {"x := not 1; x := z", api.ErrType}, {"x := z; x := not 1", api.ErrNone},
		{"any w; any x; any z", api.ErrWide}, {"any w; any z; any x", api.ErrNone}, {"any w; any x; any y", api.ErrWide}, {"any w; any y; any x", api.ErrArg}, {"any w; any x; x := true", api.ErrWide}, {"any w; x := true; any x", api.ErrType}, {"any w; x := not 1; any x", api.ErrType},
		{"any w; any x; x := 0", api.ErrWide}, {"any w; any x; x := z", api.ErrWide}, {"any x; any w", api.ErrWide}, {"any x; any w; any z", api.ErrWide},
	} {
		l := acts(t, c.l)
		got, e := act.Run(l, given(env))
		if e != c.e || e != api.OK && len(got) != 0 {
			t.Errorf("Run(%s): %v, error %d, not %d", c.l, got, e, c.e)
		}
		// Too many variables come ahead of all; then comes Check's error, also of an act behind.
		five := given(env + "; x 0 1 0")
		checkRun(t, l, five, nil, api.ErrArg)
		for _, f := range faults() {
			bad := append(slices.Clone(l), api.Act{Name: "x", Expr: f.l})
			if f.e != api.OK {
				checkRun(t, bad, given(env), nil, f.e)
			}
			checkRun(t, bad, five, nil, api.ErrArg)
		}
		many := slices.Concat(l, anys(9))
		checkRun(t, many, given(env), nil, api.ErrFull)
		checkRun(t, many, five, nil, api.ErrArg)
	}
	checkRun(t, anys(8), given("x 0 1 0"), lists("0 | 1"), api.OK)
	checkRun(t, anys(9), given("x 0 1 0"), nil, api.ErrFull)
	checkRun(t, []api.Act{{Name: "x", Any: true, Expr: parsed(t, "1")}}, given("x 0 1 0"), nil, api.ErrArg)
	checkRun(t, []api.Act{{Name: "z", Any: true, Expr: nots(40)}}, api.Env{}, nil, api.ErrArg)
	checkRun(t, []api.Act{{Name: "x"}}, given("x 0 1 0"), nil, api.ErrArg)
	checkRun(t, anys(1), api.Env{}, nil, api.ErrNone)
	// Values beyond the variables belong to none, nor does a variable of a Name that is none.
	checkRun(t, anys(1), api.Env{Vars: make([]api.Var, 4), Vals: values{1, 2, 3, 4}}, nil, api.ErrNone)
	checkRun(t, make([]api.Act, 1), api.Env{Vars: make([]api.Var, 4)}, nil, api.ErrArg)
	checkRun(t, anys(1), api.Env{Vars: slices.Repeat(given("x 0 1 0").Vars, 100000)}, nil, api.ErrArg)
	// The first variable of a Name counts, where its range is none too.
	checkRun(t, anys(1), given("x 1 0 0; x 0 1 0"), nil, api.ErrArg)
	checkRun(t, anys(1), given("x 0 1 0; x 1 0 0"), lists("0 | 1"), api.OK)
}

// ahead tells by the document's words whether a list of values stands ahead of another one.
func ahead(a, b values) bool {
	for at := range a {
		if a[at] != b[at] {
			return a[at] < b[at]
		}
	}
	return false
}

// Ac2: Less, at all lists of some numbers.
func TestLess(t *testing.T) {
	for _, c := range []struct {
		a, b string
		want bool
	}{
		{"1 2 3 4", "1 2 3 4", false}, {"0", "0", false}, {"least least least least", "least least least least", false},
		{"1 9 9 9", "2 0 0 0", true}, {"2 0 0 0", "1 9 9 9", false}, {"1 1 9 9", "1 2 0 0", true}, {"1 2 0 0", "1 1 9 9", false}, {"1 1 1 9", "1 1 2 0", true}, {"1 1 2 0", "1 1 1 9", false}, {"1 1 1 1", "1 1 1 2", true}, {"1 1 1 2", "1 1 1 1", false},
		{"-2", "-1", true}, {"-1", "1", true}, {"10", "9", false}, {"least", "most", true}, {"most", "least", false}, {"0 0 0 least", "0 0 0 most", true}, {"0 0 0 most", "0 0 0 least", false}, {"least", "0", true}, {"most", "0", false},
	} {
		a, b := lists(c.a)[0], lists(c.b)[0]
		if got := act.Less(a, b); got != c.want {
			t.Errorf("Less(%v, %v): %t", a, b, got)
		}
	}
	var all []values
	some := []int{math.MinInt, -1, 0, 2, math.MaxInt}
	for _, a := range some {
		for _, b := range some {
			for _, c := range some {
				for _, d := range some {
					all = append(all, values{a, b, c, d})
				}
			}
		}
	}
	for _, a := range all {
		for _, b := range all {
			if got := act.Less(a, b); got != ahead(a, b) {
				t.Fatalf("Less(%v, %v): %t", a, b, got)
			}
		}
	}
}

// place is where the first variable of a name stands; -1, if none does.
func place(env api.Env, name string) int {
	for at, v := range env.Vars {
		if v.Name == name {
			return at
		}
	}
	return -1
}

// ways puts into met what acts come to, each way by itself to its end; there is nothing against the acts, but how many lists there are.
func ways(l []api.Act, env api.Env, met map[values]bool) {
	if len(l) == 0 {
		met[env.Vals] = true
		return
	}
	at := place(env, l[0].Name)
	lo, hi := env.Vars[at].Lo, env.Vars[at].Hi
	if l[0].Any {
		for n := lo; n <= hi; n++ {
			env.Vals[at] = n
			ways(l[1:], env, met)
		}
		return
	}
	n, _ := eval.At(l[0].Expr, env)
	switch {
	case n < lo:
		n = lo
	case n > hi:
		n = hi
	}
	env.Vals[at] = n
	ways(l[1:], env, met)
}

// against is what is against an act, but how many lists there are; it is one that may be.
func against(a api.Act, env api.Env) api.Errno {
	at := place(env, a.Name)
	if at < 0 {
		return api.ErrNone
	}
	if v := env.Vars[at]; a.Any && (v.Lo > v.Hi || v.Hi > v.Lo+63) {
		return api.ErrArg
	}
	if a.Any {
		return api.OK
	}
	if e := eval.Check(a.Expr, env); e != api.OK {
		return e
	}
	if term.Type(a.Expr) == api.TyBool {
		return api.ErrType
	}
	return api.OK
}

// run is what Run tells, by another reading of the chapter's words.
func run(l []api.Act, env api.Env) ([]values, api.Errno) {
	if len(env.Vars) > 4 {
		return nil, api.ErrArg
	}
	if e := act.Check(l); e != api.OK {
		return nil, e
	}
	met := map[values]bool{env.Vals: true}
	for i, a := range l {
		if e := against(a, env); e != api.OK {
			return nil, e
		}
		// From the beginning on, each time.
		met = map[values]bool{}
		ways(l[:i+1], env, met)
		if len(met) > 64 {
			return nil, api.ErrWide
		}
	}
	all := slices.Collect(maps.Keys(met))
	sort.Slice(all, func(i, j int) bool { return ahead(all[i], all[j]) })
	return all, api.OK
}

// envs are those by which all small lists of acts are run.
func envs() []api.Env {
	l := []api.Env{{}}
	for _, s := range []string{
		"x 0 2 1; y -1 1 0", "y 0 3 2; x -2 0 -1", "x 0 7 3; y 0 7 9; z 0 1 0", "x 0 4 0; y 0 12 0", "x 5 5 -3; y 3 1 2", "x 0 63 1; y 0 0 most", "x 0 64 1; y -9 9 least",
		"x 0 1 0; x 0 3 3; y 0 2 2; y 7 8 5", "w 0 1 9; x -1 1 1; y 1 4 -4; z 0 9 8", "x 0 1 0; y 0 1 0; z 0 1 0; w 0 1 0; v 0 1 0",
	} {
		l = append(l, given(s))
	}
	return l
}

// checkBoth: Run is what the other reading says; what it tells rises, and what was in the range of each variable is in it still.
func checkBoth(t *testing.T, l []api.Act, env api.Env) api.Errno {
	t.Helper()
	want, e := run(l, env)
	checkRun(t, l, env, want, e)
	got, _ := act.Run(l, env)
	for i, vals := range got {
		if i > 0 && !act.Less(got[i-1], vals) {
			t.Errorf("Run(%v, %v): %v, then %v", l, env, got[i-1], vals)
		}
		for at, v := range env.Vars {
			was, is := env.Vals[at], vals[at]
			if v.Lo <= was && was <= v.Hi && (is < v.Lo || is > v.Hi) {
				t.Errorf("Run(%v, %v): %v is beyond the range of %s", l, env, vals, v.Name)
			}
		}
	}
	return e
}

// Ac2, Ac3: all small lists of acts, by some Envs.
func TestAllSmallActs(t *testing.T) {
	told := map[api.Errno]int{}
	few := acts(t, "any x; any y; x := x + 1; y := x; x := y - x")
	more := slices.Concat(few, acts(t, "any z; x := -1; y := x * y; z := x + y; x := z; x := true; y := not 1"), []api.Act{
		{Name: "x", Any: true, Expr: sum(2)}, {Name: "y"}, {Name: "x", Expr: nots(12)},
	})
	check := func(l []api.Act) {
		for _, env := range envs() {
			told[checkBoth(t, l, env)]++
		}
	}
	every(3, more, check)
	// Where each range has a few numbers, so that each way can be gone by itself.
	narrow := []api.Env{given("x 0 2 1; y -1 1 0"), given("y 0 3 2; x -2 0 -1"), given("x 5 5 -3; y 3 4 2"), given("x 0 1 0; x 0 3 3; y 0 2 2; y 7 8 5"), given("x 0 4 3; y -6 6 7"), given("y 0 7 0; x 0 7 0")}
	every(5, few, func(l []api.Act) {
		for _, env := range narrow {
			told[checkBoth(t, l, env)]++
		}
	})
	for _, e := range []api.Errno{api.OK, api.ErrArg, api.ErrType, api.ErrDeep, api.ErrNone, api.ErrWide} {
		if told[e] < 100 {
			t.Errorf("error %d is told just %d times", e, told[e])
		}
	}
}

// Ac3: what is put is read as the same acts.
func TestPutIsRead(t *testing.T) {
	check := func(l []api.Act) {
		s, e := act.Put(l)
		if e != api.OK {
			t.Fatalf("Put(%v): error %d", l, e)
		}
		if len(l) > 0 {
			tokens := reading.Tokens(t, s+" ;")
			checkRead(t, tokens, l, tokens[len(tokens)-2])
		}
	}
	some := acts(t, "any x; any y_1; x := -1; y := x * (y - 1) - -2; z := min(x, max(2, 3)) + 1; x := not (true or in(a)) and b; y := a < b; z := (a < b) == (c or d); x := a - (b - c)")
	every(4, some, check)
	for size := 1; size <= 20; size++ {
		check([]api.Act{{Name: "x", Expr: sum(size)}, {Name: "abcdefghijkl", Any: true}, {Name: "y", Expr: nots(size % 12)}})
	}
}

// spare are things that stand behind the ends of what is handed in.
func spare() (api.Act, api.Term, api.Var) {
	return api.Act{Name: "spare", Any: true}, api.Term{Op: api.TmIn, N: 9, Name: "spare"}, api.Var{Name: "x", Lo: 1, Hi: 2, Init: 1}
}

// roomy is copies of acts and of an Env, with room behind each list's end, in which something stands; and what tells whether that is all as it was.
func roomy(l []api.Act, env api.Env) ([]api.Act, api.Env, func() bool) {
	oneAct, oneTerm, oneVar := spare()
	whole := slices.Concat(l, []api.Act{oneAct, oneAct})
	vars, in := slices.Concat(env.Vars, []api.Var{oneVar, oneVar}), slices.Concat(env.In, []string{"lit", "dark"})
	var terms [][]api.Term
	for at := range whole {
		all := slices.Concat(whole[at].Expr, []api.Term{oneTerm, oneTerm})
		terms = append(terms, all)
		if len(whole[at].Expr) > 0 {
			whole[at].Expr = all[:len(all)-2]
		}
	}
	wasVars, wasIn, wasTerms := slices.Clone(vars), slices.Clone(in), [][]api.Term{}
	for _, one := range terms {
		wasTerms = append(wasTerms, slices.Clone(one))
	}
	handed := api.Env{Vars: vars[:len(env.Vars)], Vals: env.Vals, In: in[:len(env.In)]}
	still := func() bool {
		return sameActs(whole, slices.Concat(l, []api.Act{oneAct, oneAct})) && slices.Equal(vars, wasVars) && slices.Equal(in, wasIn) &&
			slices.EqualFunc(terms, wasTerms, slices.Equal[[]api.Term])
	}
	return whole[:len(l)], handed, still
}

// R3, R4: no call writes to the lists or the Env that it is handed, nor behind their ends; a second answer is the first one, also when that was written to.
func TestHandedIn(t *testing.T) {
	all := [][]api.Act{nil, {}, {{}}, anys(8), anys(9), {{Name: "x", Any: true, Expr: sum(2)}}, {{Name: "x", Expr: sum(21)}}, {{Name: "x", Expr: nots(12)}}}
	for _, s := range []string{"any x", "any x; x := x + 1", "any y; any x; y := x * x; x := y - x", "y := x; x := y", "x := true", "x := not 1", "x := q", "any q", "any x; any y; any x; any y"} {
		all = append(all, acts(t, s))
	}
	for _, l := range all {
		for _, env := range envs() {
			env.In = []string{"open"}
			handed, by, still := roomy(l, env)
			e := act.Check(handed)
			s, f := act.Put(handed)
			got, g := act.Run(handed, by)
			was := slices.Clone(got)
			for i := range got {
				got[i] = values{-7, -7, -7, -7}
			}
			again, h := act.Run(handed, by)
			if h != g || !slices.Equal(again, was) {
				t.Errorf("Run(%v, %v), a second time: %v, error %d, not %v, error %d", l, env, again, h, was, g)
			}
			if r, k := act.Put(handed); r != s || k != f || act.Check(handed) != e || e != f {
				t.Errorf("Put(%v), a second time: %q, error %d, not %q, error %d", l, r, k, s, f)
			}
			if !still() || by.Vals != env.Vals {
				t.Errorf("what was handed in is now %v, %v", handed, by)
			}
		}
	}
}

// R3: what Read answers is new: written to, it changes no token, no other act, and no later answer.
func TestReadIsNew(t *testing.T) {
	tokens := reading.Tokens(t, "x := a + b, any y, z := a + b, any x")
	was, want := slices.Clone(tokens), acts(t, "x := a + b; any y; z := a + b; any x")
	got := act.Read(cursor.New(tokens))
	if !sameActs(got, want) {
		t.Fatalf("Read: %v", got)
	}
	got[0].Expr = append(got[0].Expr, api.Term{Op: 99})
	for at := range got[0].Expr {
		got[0].Expr[at] = api.Term{Op: 99}
	}
	if !sameActs(got[1:], want[1:]) {
		t.Errorf("an act's Expr is written to, and the others are now %v", got[1:])
	}
	got[1] = api.Act{Name: "other"}
	if !slices.Equal(tokens, was) {
		t.Errorf("what was handed in is now %v", tokens)
	}
	checkRead(t, tokens, want, tokens[len(tokens)-1])
}
