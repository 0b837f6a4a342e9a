package trans_test

import (
	"math"
	"slices"
	"strings"
	"testing"

	"semblance/act"
	"semblance/api"
	"semblance/cursor"
	"semblance/expr"
	"semblance/names"
	"semblance/reading"
	"semblance/term"
	"semblance/trans"
)

// keywords are all of them, by the document's words.
const keywords = "chart event var leaf or and enter exit on auto any in min max not true false"

// parsed is the terms of a text; of an empty one none.
func parsed(t *testing.T, s string) []api.Term {
	t.Helper()
	if s == "" {
		return nil
	}
	l, e := expr.Parse(s)
	if e != api.OK {
		t.Fatalf("Parse(%q): error %d", s, e)
	}
	return l
}

// acts are those of a text; of an empty one none.
func acts(t *testing.T, s string) []api.Act {
	t.Helper()
	if s == "" {
		return nil
	}
	return reading.Whole(t, s, act.Read)
}

// parts are a transition's, each as its text, or empty.
type parts struct{ event, guard, acts, target string }

// made is the transition of parts.
func made(t *testing.T, p parts) api.Trans {
	t.Helper()
	return api.Trans{Event: p.event, Guard: parsed(t, p.guard), Acts: acts(t, p.acts), Target: p.target}
}

// text is the text of parts, by the chapter's words.
func text(p parts) string {
	s := "auto"
	if p.event != "" {
		s = "on " + p.event
	}
	if p.guard != "" {
		s += " [" + p.guard + "]"
	}
	if p.acts != "" {
		s += " / " + p.acts
	}
	if p.target != "" {
		s += " -> " + p.target
	}
	return s + ";"
}

// sameActs tells whether acts are the same; no Expr is the same as an empty one.
func sameActs(a, b []api.Act) bool {
	return slices.EqualFunc(a, b, func(a, b api.Act) bool {
		return a.Name == b.Name && a.Any == b.Any && slices.Equal(a.Expr, b.Expr)
	})
}

// same tells whether transitions are the same, by another reading than Same's; no list is the same as an empty one.
func same(a, b api.Trans) bool {
	switch {
	case a.Event != b.Event, a.Target != b.Target, !slices.Equal(a.Guard, b.Guard), !sameActs(a.Acts, b.Acts):
		return false
	}
	return true
}

// checkPut: Put is that, and Check tells the same error.
func checkPut(t *testing.T, tr api.Trans, want string, fault api.Errno) {
	t.Helper()
	if got, e := trans.Put(tr); got != want || e != fault {
		t.Errorf("Put(%v): %q, error %d, not %q, error %d", tr, got, e, want, fault)
	}
	if e := trans.Check(tr); e != fault {
		t.Errorf("Check(%v): error %d, not %d", tr, e, fault)
	}
}

// checkRead: Read of tokens is that; then that token is next, and there is no fault.
func checkRead(t *testing.T, l []api.Token, want api.Trans, next api.Token) {
	t.Helper()
	reading.Check(t, l, trans.Read, same, want, next)
}

// checkFault: Read of tokens is the zero transition, and that fault.
func checkFault(t *testing.T, l []api.Token, want api.Pos, fault api.Errno) {
	t.Helper()
	reading.CheckFault(t, l, trans.Read, same, want, fault)
}

// marked is the tokens of a text out of which its @ is taken, and the place at which it stood.
func marked(t *testing.T, s string) ([]api.Token, api.Pos) {
	t.Helper()
	text, at := reading.Marked(t, s)
	return reading.Tokens(t, text), at
}

// checkFaultAt: of a text without its @ Read is the zero transition, and that fault where the @ stood.
func checkFaultAt(t *testing.T, s string, fault api.Errno) {
	t.Helper()
	l, at := marked(t, s)
	checkFault(t, l, at, fault)
}

// nots is so many not ahead of x: one deeper than so many.
func nots(many int) []api.Term {
	return append(slices.Repeat([]api.Term{{Op: api.TmNot}}, many), api.Term{Op: api.TmVar, Name: "x"})
}

// sum is a sum of so many x, as flat as may be.
func sum(many int) []api.Term {
	if many == 1 {
		return []api.Term{{Op: api.TmVar, Name: "x"}}
	}
	return slices.Concat([]api.Term{{Op: api.TmAdd}}, sum(many/2), sum(many-many/2))
}

// anys is so many acts with Any, of x.
func anys(many int) []api.Act { return slices.Repeat([]api.Act{{Name: "x", Any: true}}, many) }

// Tr1, Tr2: the chapter's example.
func TestExample(t *testing.T) {
	const s = "on open [n < 3] / n := n + 1 -> opened;"
	want := api.Trans{
		Event: "open",
		Guard: []api.Term{{Op: api.TmLt}, {Op: api.TmVar, Name: "n"}, {Op: api.TmNum, N: 3}},
		Acts: []api.Act{{
			Name: "n",
			Expr: []api.Term{{Op: api.TmAdd}, {Op: api.TmVar, Name: "n"}, {Op: api.TmNum, N: 1}},
		}},
		Target: "opened",
	}
	l := reading.Tokens(t, s)
	checkRead(t, l, want, l[len(l)-1])
	checkPut(t, want, s, api.OK)
}

// Tr1, Tr2: texts, the transitions that they are, and these transitions' text.
func TestTexts(t *testing.T) {
	for _, c := range []struct {
		s, text string
		parts
	}{
		// Each combination of parts.
		{"auto;", "auto;", parts{}},
		{"auto->b;", "auto -> b;", parts{"", "", "", "b"}},
		{"auto/any x;", "auto / any x;", parts{"", "", "any x", ""}},
		{"auto/any x->b;", "auto / any x -> b;", parts{"", "", "any x", "b"}},
		{"auto[x<1];", "auto [x < 1];", parts{"", "x < 1", "", ""}},
		{"auto[x<1]->b;", "auto [x < 1] -> b;", parts{"", "x < 1", "", "b"}},
		{"auto[x<1]/any x;", "auto [x < 1] / any x;", parts{"", "x < 1", "any x", ""}},
		{"auto[x<1]/any x->b;", "auto [x < 1] / any x -> b;", parts{"", "x < 1", "any x", "b"}},
		{"on a;", "on a;", parts{"a", "", "", ""}},
		{"on a->b;", "on a -> b;", parts{"a", "", "", "b"}},
		{"on a/any x;", "on a / any x;", parts{"a", "", "any x", ""}},
		{"on a/any x->b;", "on a / any x -> b;", parts{"a", "", "any x", "b"}},
		{"on a[x<1];", "on a [x < 1];", parts{"a", "x < 1", "", ""}},
		{"on a[x<1]->b;", "on a [x < 1] -> b;", parts{"a", "x < 1", "", "b"}},
		{"on a[x<1]/any x;", "on a [x < 1] / any x;", parts{"a", "x < 1", "any x", ""}},
		{"on a[x<1]/any x->b;", "on a [x < 1] / any x -> b;", parts{"a", "x < 1", "any x", "b"}},
		// Blanks and remarks between tokens.
		{" on\ta # on b\n [ x\n<\n1 ]\r\n / any\n\nx # ;\n -> # no\n b\n ;", "on a [x < 1] / any x -> b;", parts{"a", "x < 1", "any x", "b"}},
		{"auto ;", "auto;", parts{}}, {"auto -> b ;", "auto -> b;", parts{"", "", "", "b"}},
		// A Guard as layer 6 tells it; the brackets around it are the transition's.
		{"auto[((x))];", "auto [x];", parts{"", "x", "", ""}}, {"auto [1];", "auto [1];", parts{"", "1", "", ""}},
		{"auto[not(x<2 and true)or in(b)];", "auto [not (x < 2 and true) or in(b)];", parts{"", "not (x < 2 and true) or in(b)", "", ""}},
		{"auto[-x- -1>=min(2,max(y,z))];", "auto [-x - -1 >= min(2, max(y, z))];", parts{"", "-x - -1 >= min(2, max(y, z))", "", ""}},
		{"auto[a-(b-c)==(a-b)-c];", "auto [a - (b - c) == a - b - c];", parts{"", "a - (b - c) == a - b - c", "", ""}},
		{"on a[(a<b)>c]->b;", "on a [(a < b) > c] -> b;", parts{"a", "(a < b) > c", "", "b"}},
		// Several acts, as layer 8 tells them.
		{"auto/x:=1,any y,z:=x*(y-1);", "auto / x := 1, any y, z := x * (y - 1);", parts{"", "", "x := 1, any y, z := x * (y - 1)", ""}},
		{"on a/any x,any x->b;", "on a / any x, any x -> b;", parts{"a", "", "any x, any x", "b"}},
		{"auto/x:=n->b;", "auto / x := n -> b;", parts{"", "", "x := n", "b"}}, {"auto/x:=-1->b;", "auto / x := -1 -> b;", parts{"", "", "x := -1", "b"}},
		{"on a[true]/x:=x<1,y:=((2))->b;", "on a [true] / x := x < 1, y := 2 -> b;", parts{"a", "true", "x := x < 1, y := 2", "b"}},
		// The same name in several parts; names that begin with a keyword, or are as long as may be.
		{"on x[x]/x:=x->x;", "on x [x] / x := x -> x;", parts{"x", "x", "x := x", "x"}},
		{"on on_ [ina] / anyx := nota -> autoa;", "on on_ [ina] / anyx := nota -> autoa;", parts{"on_", "ina", "anyx := nota", "autoa"}},
		{"on abcdefghijkl -> mnopqrstuvwx;", "on abcdefghijkl -> mnopqrstuvwx;", parts{"abcdefghijkl", "", "", "mnopqrstuvwx"}},
	} {
		tr := made(t, c.parts)
		checkPut(t, tr, c.text, api.OK)
		for _, s := range []string{c.s, c.text} {
			l := reading.Tokens(t, s)
			checkRead(t, l, tr, l[len(l)-1])
		}
	}
	checkPut(t, api.Trans{Guard: []api.Term{}, Acts: []api.Act{}}, "auto;", api.OK)
	checkPut(t, api.Trans{Event: "a", Acts: []api.Act{{Name: "x", Any: true, Expr: []api.Term{}}}}, "on a / any x;", api.OK)
}

// combinations are transitions of each part out of some.
func combinations() []parts {
	var all []parts
	for _, event := range []string{"", "a", "abcdefghijkl", "on_1"} {
		for _, guard := range []string{"", "1", "x", "-x", "not x", "in(a)", "n < 3", "(a < b) == (c or d)", "min(x, -2) * (y - 1) >= 0 and (a or b)"} {
			for _, acts := range []string{"", "any x", "x := 1", "x := -1, any y", "any x, x := x - (y - z), y := a == b", "any a, any b, any c, any d, any e, any f, any g, h := max(1, 2)"} {
				for _, target := range []string{"", "b", "abcdefghijkl", "auto_2"} {
					all = append(all, parts{event, guard, acts, target})
				}
			}
		}
	}
	return all
}

// Tr1, Tr3: the text of every combination of parts, which is read as the same transition; what stands behind is left.
func TestPutIsRead(t *testing.T) {
	for _, p := range combinations() {
		tr, s := made(t, p), text(p)
		checkPut(t, tr, s, api.OK)
		for _, behind := range []string{"", " ;", " auto -> b;", " }", " [x]"} {
			l := reading.Tokens(t, s+behind)
			semicolon := slices.IndexFunc(l, func(one api.Token) bool { return one.Text == ";" })
			checkRead(t, l, tr, l[semicolon+1])
		}
	}
	// As great as may be.
	for size := 1; size <= 20; size++ {
		one := api.Act{Name: "abcdefghijkl", Expr: sum(size)}
		for _, guard := range [][]api.Term{sum(size), nots(size % 12)} {
			tr := api.Trans{Event: "abcdefghijkl", Guard: guard, Acts: slices.Repeat([]api.Act{one}, 8), Target: "abcdefghijkl"}
			s, e := trans.Put(tr)
			if e != api.OK {
				t.Fatalf("Put(%v): error %d", tr, e)
			}
			l := reading.Tokens(t, s)
			checkRead(t, l, tr, l[len(l)-1])
		}
	}
}

// Tr1: which Events and Targets are neither empty nor names.
func TestNames(t *testing.T) {
	words := strings.Fields(keywords + " abcdefghijklm 1 1x _x X xX x-y x; -> [x] \xff \xc3\xa4")
	for _, name := range append(words, " ", " x", "x ", "x y", "on x", "x\n", strings.Repeat("x", 100000)) {
		checkPut(t, api.Trans{Event: name}, "", api.ErrArg)
		checkPut(t, api.Trans{Target: name}, "", api.ErrArg)
		checkPut(t, api.Trans{Event: name, Target: "b"}, "", api.ErrArg)
		checkPut(t, api.Trans{Event: "a", Target: name}, "", api.ErrArg)
		checkPut(t, api.Trans{Event: name, Target: name}, "", api.ErrArg)
		checkPut(t, api.Trans{Event: name, Guard: sum(2), Acts: anys(1), Target: "b"}, "", api.ErrArg)
		checkPut(t, api.Trans{Event: "a", Guard: sum(2), Acts: anys(1), Target: name}, "", api.ErrArg)
	}
	for _, name := range strings.Fields("x a0 a_ onx on_ ona autos orr tru abcdefghijkl") {
		checkPut(t, api.Trans{Event: name}, "on "+name+";", api.OK)
		checkPut(t, api.Trans{Target: name}, "auto -> "+name+";", api.OK)
		checkPut(t, api.Trans{Event: name, Target: name}, "on "+name+" -> "+name+";", api.OK)
	}
}

// guard is one, and why it may not be.
type guard struct {
	l []api.Term
	e api.Errno
}

// guards are such as may be, and such as may not.
func guards() []guard {
	return []guard{
		{nil, api.OK}, {[]api.Term{}, api.OK}, {sum(1), api.OK}, {sum(20), api.OK}, {nots(11), api.OK}, {[]api.Term{{Op: api.TmNum, N: 1000000}}, api.OK},
		{[]api.Term{{}}, api.ErrArg}, {make([]api.Term, 40), api.ErrArg}, {[]api.Term{{Op: api.TmAdd}}, api.ErrArg}, {[]api.Term{{Op: api.TmTrue}, {Op: api.TmTrue}}, api.ErrArg}, {[]api.Term{{Op: api.TmVar, Name: "or"}}, api.ErrArg}, {[]api.Term{{Op: api.TmIn}}, api.ErrArg},
		{[]api.Term{{Op: api.TmNum, N: 1000001}}, api.ErrArg}, {[]api.Term{{Op: api.TmNum, N: -1}}, api.ErrArg}, {[]api.Term{{Op: api.TmTrue, N: 1}}, api.ErrArg}, {[]api.Term{{Op: math.MinInt}}, api.ErrArg}, {[]api.Term{{Op: math.MaxInt}}, api.ErrArg},
		{nots(12), api.ErrDeep}, {nots(39), api.ErrDeep},
		{nots(40), api.ErrFull}, {sum(21), api.ErrFull}, {make([]api.Term, 41), api.ErrFull}, {nots(100000), api.ErrFull},
	}
}

// some are acts, and why they may not be.
type some struct {
	l []api.Act
	e api.Errno
}

// lists are acts that may be, and such as may not.
func lists() []some {
	x := api.Act{Name: "x", Expr: sum(1)}
	return []some{
		{nil, api.OK}, {[]api.Act{}, api.OK}, {anys(1), api.OK}, {anys(8), api.OK}, {slices.Repeat([]api.Act{x}, 8), api.OK}, {[]api.Act{{Name: "x", Expr: nots(11)}}, api.OK},
		{[]api.Act{{}}, api.ErrArg}, {make([]api.Act, 8), api.ErrArg}, {[]api.Act{{Name: "x"}}, api.ErrArg}, {[]api.Act{{Name: "any", Any: true}}, api.ErrArg}, {[]api.Act{x, {Name: "abcdefghijklm", Any: true}}, api.ErrArg},
		{[]api.Act{{Name: "x", Any: true, Expr: sum(1)}}, api.ErrArg}, {[]api.Act{{Name: "x", Any: true, Expr: nots(40)}}, api.ErrArg}, {[]api.Act{x, {Name: "x", Expr: make([]api.Term, 1)}}, api.ErrArg},
		{[]api.Act{{Name: "x", Expr: nots(12)}}, api.ErrDeep}, {[]api.Act{x, {Name: "x", Expr: nots(39)}, {}}, api.ErrDeep},
		{[]api.Act{{Name: "x", Expr: nots(40)}}, api.ErrFull}, {[]api.Act{x, {Name: "x", Expr: sum(21)}, {}}, api.ErrFull}, {anys(9), api.ErrFull}, {make([]api.Act, 9), api.ErrFull}, {anys(100000), api.ErrFull},
	}
}

// Tr1: ErrArg of the Event and of the Target comes ahead of the Guard's error, that ahead of the Acts'; parts that are empty have none.
func TestFirstError(t *testing.T) {
	for _, g := range guards() {
		if e := term.Check(g.l); e != g.e && len(g.l) > 0 {
			t.Fatalf("the test's own Guard %v has error %d", g.l, e)
		}
		for _, l := range lists() {
			if e := act.Check(l.l); e != l.e {
				t.Fatalf("the test's own Acts %v have error %d", l.l, e)
			}
			want := g.e
			if want == api.OK {
				want = l.e
			}
			for _, event := range []string{"", "a", "abcdefghijkl"} {
				for _, target := range []string{"", "b", "abcdefghijkl"} {
					tr := api.Trans{Event: event, Guard: g.l, Acts: l.l, Target: target}
					if e := trans.Check(tr); e != want {
						t.Errorf("Check(%v): error %d, not %d", tr, e, want)
					}
					if s, e := trans.Put(tr); e != want || (s == "") != (e != api.OK) {
						t.Errorf("Put(%v): %q, error %d, not error %d", tr, s, e, want)
					}
				}
			}
			for _, name := range []string{"on", "abcdefghijklm", "1"} {
				checkPut(t, api.Trans{Event: name, Guard: g.l, Acts: l.l}, "", api.ErrArg)
				checkPut(t, api.Trans{Event: "a", Guard: g.l, Acts: l.l, Target: name}, "", api.ErrArg)
			}
		}
	}
}

// Tr2: texts that are no transitions: the fault stands at the @.
func TestFaults(t *testing.T) {
	for _, s := range []string{
		// What is no first word.
		"@", " # on x;\n @", "@;", "@x;", "@1;", "@-> x;", "@[x];", "@/ any x;", "@or x;", "@any x;", "@enter any x;", "@leaf x;", "@not on x;", "@(on x);", "@ons x;", "@onx;", "@autos;", "@1000001;", "@}", "\n\n  @event x;",
		// What is no Event.
		"on@", "on @;", "on @[x];", "on @/ any x;", "on @-> x;", "on @1;", "on @(x);", "on @, x;", "on @1000001;", "on\n # x\n @]", "on @auto;", "on @on x;", "on @any;",
		// What stands behind the first words is no part, and no semicolon.
		"on x @y;", "on x@, y;", "on x @on y;", "on x @auto;", "on x @1;", "on x @(y);", "on x @{y};", "on x@]", "on x @:= 1;", "on x @or y;", "on x @and [y];", "on x @any y;", "on x @< y;",
		"auto @x;", "auto @auto;", "auto @on x;", "auto @1;", "auto @or;", "auto @any x;", "auto @x := 1;", "auto @any [x];", "auto @not x;", "auto@, x;",
		// What is no Guard.
		"auto [@", "auto [@];", "on x [@];", "auto [@[x]];", "auto [@;", "auto [@/ any x;", "auto [@-> x;", "auto [@or];", "auto [@on];", "auto [@any x];", "auto [@:= 1];", "auto [@01];", "auto [@*];", "auto [@, x];", "auto [@)];",
		"auto [x or@];", "auto [x +@];", "auto [not@];", "auto [-@];", "auto [(x@];", "auto [(@];", "auto [min(x@)];", "auto [in(@1)];", "auto [in(@or)];", "auto [in @x];", "auto [x + @or];", "auto [x == @not y];",
		// What is no ].
		"auto [x@", "auto [x@;", "auto [x@);", "auto [x@}", "auto [x@, y];", "auto [x @y];", "auto [x @1];", "auto [x @not y];", "auto [a < b @< c];", "auto [x @/ any y;", "auto [x @-> y;", "auto [x @:= 1];", "auto [x @[y]];", "auto [x\n@", "on x [true@",
		// What stands behind the Guard.
		"auto [x]@", "auto [x]@]", "auto [x]@}", "auto [x] @x;", "auto [x] @or y;", "auto [x] @any y;", "auto [x] @1;", "auto [x]@, y;", "auto [x] @on y;",
		// What are no Acts.
		"auto /@", "auto /@;", "auto / @-> x;", "auto / @/ any x;", "auto / @[x];", "auto / @, any x;", "auto / @1;", "auto / @or := 1;", "auto / @on x;", "auto / @:= 1;", "on x [y] /@;", "auto / @not x;",
		"auto / x@;", "auto / x @= 1;", "auto / x @-> y;", "auto / x@, any y;", "auto / x @[y];", "auto / any@;", "auto / any@", "auto / any @or;", "auto / any @1;", "auto / any @-> x;", "auto / any @any x;",
		"auto / x :=@;", "auto / x := @-> y;", "auto / x := @any y;", "auto / x := @or;", "auto / x := 1 +@;", "auto / x := (1@;", "auto / x := @[y];", "auto / x := @, any y;", "auto / any x,@;", "auto / any x, @-> y;", "auto / any x, y@;", "auto / any x, y :=@;", "auto / any x,@, any y;",
		// What stands behind the Acts.
		"auto / any x@", "auto / x := 1@", "auto / any x@]", "auto / any x @any y;", "auto / any x @y;", "auto / any x @:= 1;", "auto / x := 1 @y := 2;", "auto / x := 1 @any y;", "auto / x := a < b @< c;", "auto / any x @+ 1;", "auto / x := y @:= 1;", "auto / any x @}",
		// What is no Target.
		"auto ->@", "auto ->@;", "auto -> @or;", "auto -> @-> x;", "auto -> @[x];", "auto -> @/ any x;", "auto -> @1;", "auto -> @(x);", "auto -> @1000001;", "on x [y] / any z ->@;", "on x ->\n@on y;", "auto @- > x;", "auto @> x;", "auto @- x;", "auto @= x;", "auto @:= x;",
		// What stands behind the Target.
		"auto -> x@", "auto -> x @y;", "auto -> x@, y;", "auto -> x@]", "auto -> x @1;", "auto -> x @or;", "auto -> x@}", "auto -> x\n @on y;", "on x [y] / any z -> w@",
		// No semicolon.
		"auto@", "on x@", "auto@}", "auto\n@on x;", "on x\n\n# ;\n@", "auto@..",
		// What is told twice, or out of its order.
		"auto [x] @[y];", "auto / any x @/ any y;", "auto -> x @-> y;", "on x [y] @[y] / any z;", "on x [y] / any z @/ any z -> w;", "on x [y] / any z -> w @-> w;",
		"auto / any x @[y];", "auto / x := 1 @[y];", "auto -> x @[y];", "auto -> x @/ any y;", "on x / any y @[z] -> w;", "on x [y] -> z @/ any w;", "on x -> y @[z] / any w;", "@[x] on y;", "@-> x on y;", "on x [y] / any z @[y] -> w;",
		// The first one of several.
		"@or or [or] / or -> or", "on @or [1000001] / or -> or", "on x [@or] / or -> or", "on x [y @/ or -> or", "on x [y] / @or -> or", "on x [y] / any z -> @or", "on x [y] / any z -> w @or", "auto [@] -> or;", "auto ->@; on or",
	} {
		checkFaultAt(t, s, api.ErrText)
	}
	for _, s := range []string{"auto [@1000001];", "auto [x < @999999999];", "on x [min(1, @1000001)];", "auto / x := @1000001;", "auto / x := 1, y := 2 + @1000001;", "auto [@1000001 or] / or", "auto / x := @1000001 or", "on x [@1000001] / y := 1000001 -> or"} {
		checkFaultAt(t, s, api.ErrRange)
	}
}

// Tr2: a keyword stands where a name must be.
func TestKeywords(t *testing.T) {
	for _, word := range strings.Fields(keywords) {
		for _, s := range []string{"on @" + word + ";", "on @" + word + " [x] / any y -> z;", "auto -> @" + word + ";", "on x [y] / any z -> @" + word + ";", "auto / any @" + word + ";", "auto [in(@" + word + ")];"} {
			checkFaultAt(t, s, api.ErrText)
		}
		switch word {
		case "on":
			checkFaultAt(t, "on@;", api.ErrText)
		case "auto":
			checkFaultAt(t, "auto @x;", api.ErrText)
		default:
			checkFaultAt(t, "@"+word+" x;", api.ErrText)
		}
		if word != "any" {
			checkFaultAt(t, "auto / @"+word+" := 1;", api.ErrText)
		}
		switch word {
		case "true", "false", "not", "in", "min", "max":
		default:
			checkFaultAt(t, "auto [@"+word+"];", api.ErrText)
		}
	}
}

// Tr2: too much, or too deep: at the token behind, as the layers below tell it.
func TestTooMuch(t *testing.T) {
	deep, full := strings.Repeat("-", 12)+"x", strings.Repeat("-", 40)+"x"
	eight := strings.Repeat("any x, ", 7) + "any x"
	for _, c := range []struct {
		s string
		e api.Errno
	}{
		{"auto [" + deep + "@];", api.ErrDeep}, {"on y [" + deep + "@] -> z;", api.ErrDeep}, {"auto [" + deep + " @y];", api.ErrDeep}, {"auto [" + deep + "@", api.ErrDeep}, {"auto [" + deep + " +@];", api.ErrText},
		{"auto [" + full + "@];", api.ErrFull}, {"on y [" + full + "\n@;", api.ErrFull}, {"auto [x" + strings.Repeat(" + x", 20) + "@];", api.ErrFull}, {"auto [x" + strings.Repeat(" + x", 12) + "@];", api.ErrDeep}, {"auto [" + full + " or@", api.ErrText}, {"auto [(" + full + "@];", api.ErrText},
		{"auto / x := " + deep + "@;", api.ErrDeep}, {"auto / any y, x := " + deep + " @-> z;", api.ErrDeep}, {"auto / x := " + deep + "@, or", api.ErrDeep}, {"auto / x := " + full + "@;", api.ErrFull}, {"on y [z] / x := " + full + " @[z]", api.ErrFull},
		{"auto / " + eight + ", @any x;", api.ErrFull}, {"auto / " + eight + ",@;", api.ErrFull}, {"auto / " + eight + ", @-> y;", api.ErrFull}, {"on y [z] / " + eight + ",\n@or", api.ErrFull}, {"auto / " + eight + " @any x;", api.ErrText}, {"auto / " + eight + ", @" + strings.Repeat("any x, ", 900), api.ErrFull},
		// The Guard's ahead of the Acts'.
		{"auto [" + deep + "@] / " + eight + ", any x -> or", api.ErrDeep}, {"auto [" + full + "@] / x := " + deep + ";", api.ErrFull}, {"auto [x] / x := " + deep + "@, y := " + full + ";", api.ErrDeep}, {"auto [" + deep + " @/ any or", api.ErrDeep},
	} {
		checkFaultAt(t, c.s, c.e)
	}
	for _, s := range []string{"auto [" + deep[1:] + "]", "auto [x" + strings.Repeat(" + x", 11) + "]", "auto / " + eight, "on y [" + deep[1:] + "] / " + eight + " -> z"} {
		l := reading.Tokens(t, s+"; ]")
		c := cursor.New(l)
		if tr := trans.Read(c); same(tr, api.Trans{}) || !c.Is(api.TokMark, "]") {
			t.Errorf("Read of %q: %v, then %v", s, tr, c.Next())
		}
	}
}

// Tr2: Read goes past the semicolon and leaves what stands behind it, whatever it is: that stands at the @.
func TestWhatStandsBehind(t *testing.T) {
	for _, p := range []parts{{}, {"a", "", "", ""}, {"", "x", "", ""}, {"", "", "any x", ""}, {"", "", "x := 1", ""}, {"", "", "", "b"}, {"a", "x < 1", "any y, x := y", "b"}} {
		for _, behind := range []string{"@", " @;", "@;;", "\n@", " @}", "@]", " @[x]", " @/ any x", " @-> c;", " @, any x", " @on b;", " @auto;", " @enter any x;", " @x", " @or x", " @1000001", " @any x", "\n@leaf a;"} {
			l, place := marked(t, text(p)+behind)
			at := slices.IndexFunc(l, func(one api.Token) bool { return one.At == place })
			checkRead(t, l, made(t, p), l[at])
		}
	}
	// Transitions behind others, by the same cursor.
	c := cursor.New(reading.Tokens(t, "on a; auto -> b; on c [d] / any e, f := 1 -> g;auto;\n}"))
	for _, want := range []parts{{"a", "", "", ""}, {"", "", "", "b"}, {"c", "d", "any e, f := 1", "g"}, {}} {
		if got := trans.Read(c); !same(got, made(t, want)) {
			t.Errorf("Read: %v, not %v", got, want)
		}
	}
	if !c.Is(api.TokMark, "}") {
		t.Errorf("Read: then %v", c.Next())
	}
	if got := trans.Read(c); !same(got, api.Trans{}) || c.Good() {
		t.Errorf("Read at a brace: %v", got)
	}
}

// Tr2, R1: a cursor with a fault already keeps it; at the end there is ErrText; nobody's has its own.
func TestCursors(t *testing.T) {
	for _, e := range []api.Errno{api.ErrLoop, api.ErrText, api.ErrArg} {
		c := cursor.New(reading.Tokens(t, "auto; on a [x] / any x -> b;"))
		trans.Read(c)
		c.Fail(e)
		for range 2 {
			if got := trans.Read(c); !same(got, api.Trans{}) {
				t.Errorf("Read with a fault: %v", got)
			}
		}
		if at, fault := c.Fault(); at != (api.Pos{Line: 1, Col: 7}) || fault != e {
			t.Errorf("Read with a fault: fault %d at %v", fault, at)
		}
	}
	checkFault(t, nil, api.Pos{}, api.ErrText)
	checkFault(t, []api.Token{{Kind: api.TokEnd, At: api.Pos{Line: 3, Col: 4}}}, api.Pos{Line: 3, Col: 4}, api.ErrText)
	// Behind the last token stands an end of its place, of a list without one too.
	bare := reading.Tokens(t, "on a [x] / any y -> b;")
	for size := 1; size < len(bare)-1; size++ {
		checkFault(t, bare[:size], bare[size-1].At, api.ErrText)
	}
	whole := bare[:len(bare)-1]
	checkRead(t, whole, made(t, parts{"a", "x", "any y", "b"}), api.Token{At: whole[len(whole)-1].At})
	for _, c := range []*cursor.Cursor{nil, {}} {
		if got := trans.Read(c); !same(got, api.Trans{}) {
			t.Errorf("Read of nobody's: %v", got)
		}
		if at, e := c.Fault(); at != (api.Pos{}) || e != api.ErrState {
			t.Errorf("Read of nobody's: fault %d at %v", e, at)
		}
	}
}

// states tells, by the chapters' grammars, for each place in a transition which words may stand there, and which place is behind each: NAME is a name, NUM a number; of expressions there are just sums.
func states() map[string]string {
	return map[string]string{
		"first":    "on event auto told",
		"event":    "NAME told",
		"told":     "[ guard / act -> target ; whole",
		"guard":    "NAME summed NUM summed",
		"summed":   "+ guard ] guarded",
		"guarded":  "/ act -> target ; whole",
		"act":      "any anyname NAME assign",
		"anyname":  "NAME acted",
		"assign":   ":= value",
		"value":    "NAME valued NUM valued",
		"valued":   "+ value , act -> target ; whole",
		"acted":    ", act -> target ; whole",
		"target":   "NAME targeted",
		"targeted": "; whole",
	}
}

// word is what a token is called where states tells what may stand there; ? of one that may stand nowhere.
func word(one api.Token) string {
	switch {
	case one.Text == "+" && (one.Kind == api.TokMark || one.Kind == api.TokName):
		return "+"
	case one.Kind == api.TokName && names.Is(one.Text):
		return "NAME"
	case one.Kind == api.TokNum && len(one.Text) == 1 && '0' <= one.Text[0] && one.Text[0] <= '9':
		return "NUM"
	case one.Kind == api.TokName && strings.Contains(" on auto any ", " "+one.Text+" "):
		return one.Text
	case one.Kind == api.TokMark && strings.Contains(" [ ] / -> ; , := ", " "+one.Text+" "):
		return one.Text
	}
	return "?"
}

// outcome is what tokens are by another reading: the transition, the place of the token behind it; else a fault, and the place of its token.
type outcome struct {
	tr api.Trans
	at int
	e  api.Errno
}

// another reads a transition state by state; an end must stand behind the tokens, each number is below 10.
func another(l []api.Token) outcome {
	may := states()
	state := "first"
	var tr api.Trans
	for at, one := range l {
		if e := tooMuch(state, one, tr); e != api.OK {
			return outcome{api.Trans{}, at, e}
		}
		row := strings.Fields(may[state])
		i := slices.Index(row, word(one))
		if i < 0 {
			return outcome{api.Trans{}, at, api.ErrText}
		}
		keep(&tr, state, one)
		state = row[i+1]
		if state == "whole" {
			return outcome{tr, at + 1, api.OK}
		}
	}
	panic("no end stands behind the tokens")
}

// keep puts into a transition what a token says at a place in it.
func keep(tr *api.Trans, state string, one api.Token) {
	last := len(tr.Acts) - 1
	switch {
	case state == "event":
		tr.Event = one.Text
	case state == "target":
		tr.Target = one.Text
	case state == "guard":
		tr.Guard = added(tr.Guard, one)
	case state == "value":
		tr.Acts[last].Expr = added(tr.Acts[last].Expr, one)
	case state == "anyname":
		tr.Acts[last].Name = one.Text
	case state == "act" && word(one) == "any":
		tr.Acts = append(tr.Acts, api.Act{Any: true})
	case state == "act":
		tr.Acts = append(tr.Acts, api.Act{Name: one.Text})
	}
}

// added is the sum of terms and of what a token is; of no terms that alone.
func added(l []api.Term, one api.Token) []api.Term {
	if len(l) > 0 {
		l = append([]api.Term{{Op: api.TmAdd}}, l...)
	}
	if one.Kind == api.TokNum {
		return append(l, api.Term{Op: api.TmNum, N: int(one.Text[0] - '0')})
	}
	return append(l, api.Term{Op: api.TmVar, Name: one.Text})
}

// tooMuch tells why what was read is too much, or too deep, as the next token is met.
func tooMuch(state string, next api.Token, tr api.Trans) api.Errno {
	sum := tr.Guard
	if state == "act" && len(tr.Acts) == 8 {
		return api.ErrFull
	}
	if state == "valued" {
		sum = tr.Acts[len(tr.Acts)-1].Expr
	}
	// Each + takes the sum ahead of it one deeper.
	if (state == "summed" || state == "valued") && word(next) != "+" {
		switch {
		case len(sum) > 40:
			return api.ErrFull
		case (len(sum)+1)/2 > 12:
			return api.ErrDeep
		}
	}
	return api.OK
}

// checkTokens: Read of tokens is what the other reading says.
func checkTokens(t *testing.T, l []api.Token) outcome {
	t.Helper()
	l = reading.Placed(l)
	want := another(l)
	if want.e != api.OK {
		checkFault(t, l, l[want.at].At, want.e)
	} else {
		checkRead(t, l, want.tr, l[want.at])
	}
	return want
}

// Tr2: Read of all small lists of tokens, against the other reading.
func TestAllSmallTokens(t *testing.T) {
	told := map[api.Errno]int{}
	reading.Every(4, reading.Words("on auto x leaf [ ] / -> ; , := any + 1 !on !auto !x !; !1"), func(l []api.Token) bool {
		told[checkTokens(t, l).e]++
		return true
	})
	// Longer ones, as long as what is there may become a transition; and with something behind what may not.
	of, tails := reading.Words("on auto x leaf [ ] / -> ; , := any + 1 !on !any !+ ![ !] !/ !-> !; !, !:= !x !1 !"), []string{"x ;", "-> x ;", "; on x ;", "] ;", "x := 1 ;"}
	reading.Every(11, of, func(l []api.Token) bool {
		got := checkTokens(t, l)
		told[got.e]++
		if got.e != api.OK && got.at == len(l) {
			return true
		}
		for _, tail := range tails {
			checkTokens(t, slices.Concat(l, reading.Words(tail)))
		}
		return false
	})
	for _, e := range []api.Errno{api.OK, api.ErrText} {
		if told[e] < 800 {
			t.Errorf("error %d is told just %d times", e, told[e])
		}
	}
}

// Tr2: one token is missing, doubled, changed with the next one, or another one, at each place of transitions that may be; also of as much as may be, and of more.
func TestOneTokenOff(t *testing.T) {
	told := map[api.Errno]int{}
	check := func(l ...[]api.Token) { told[checkTokens(t, slices.Concat(l...)).e]++ }
	sums := func(many int) string { return "x" + strings.Repeat(" + 1", many-1) }
	eight := strings.Repeat("any x , y := 1 + x , ", 3) + "x := 2 , any z"
	for _, s := range []string{
		"auto ;", "on a ;", "on a -> b ;", "auto [ x + 1 ] ;", "on a / any x ;", "auto / x := 1 + y , any y -> b ; on c ;", "on a [ n ] / n := n + 1 -> b ;", "auto [ 1 ] / any x , y := 2 , any z ;", "on a [ x ] -> b ; on c ;",
		"auto / " + eight + " ;", "on a [ x ] / " + eight + " -> b ;", "on a / " + eight + " , any x -> b ;",
		"on a [ " + sums(12) + " ] -> b ;", "on a [ " + sums(13) + " ] -> b ;", "on a [ " + sums(20) + " ] ;", "auto [ " + sums(21) + " ] ;", "auto / x := " + sums(12) + " , any x ;", "auto / x := " + sums(13) + " , any x ;", "auto / any x , x := " + sums(21) + " -> b ;",
	} {
		whole := reading.Words(s)
		check(whole)
		for at := range whole {
			ahead, one, behind := whole[:at], whole[at:at+1], whole[at+1:]
			check(ahead)
			check(ahead, behind)
			check(ahead, one, one, behind)
			if len(behind) > 0 {
				check(ahead, behind[:1], one, behind[1:])
			}
			for _, other := range reading.Words("on auto x leaf [ ] / -> ; , := any + 1 ) = !on !any !x !; !1 !") {
				check(ahead, []api.Token{other}, behind)
				check(ahead, []api.Token{other}, one, behind)
			}
			for _, kind := range []int{api.TokEnd, api.TokName, api.TokMark, 4, -1, math.MaxInt, math.MinInt} {
				check(ahead, []api.Token{{Kind: kind, Text: one[0].Text}}, behind)
			}
			for _, word := range []string{"", " ", "X", "abcdefghijklm", "or"} {
				// `or` stands between two in expressions, of which the other reading knows no others than sums.
				if word != "or" || !slices.ContainsFunc(ahead, func(one api.Token) bool { return one.Text == "[" || one.Text == ":=" }) {
					check(ahead, []api.Token{{Kind: one[0].Kind, Text: word}}, behind)
				}
			}
		}
	}
	for _, e := range []api.Errno{api.OK, api.ErrText, api.ErrDeep, api.ErrFull} {
		if told[e] < 100 {
			t.Errorf("error %d is told just %d times", e, told[e])
		}
	}
}

// different are transitions, none of which is the same as another one; also such as may not be.
func different() []api.Trans {
	num := func(n int) []api.Term { return []api.Term{{Op: api.TmNum, N: n}} }
	name := func(op int, s string) []api.Term { return []api.Term{{Op: op, Name: s}} }
	all := []api.Trans{
		{}, {Event: "a"}, {Event: "b"}, {Event: "ab"}, {Event: "auto"}, {Event: "on"}, {Event: " "}, {Target: "a"}, {Target: "b"}, {Target: "\x00"},
		{Event: "a", Target: "a"}, {Event: "a", Target: "b"}, {Event: "b", Target: "a"}, {Event: "a", Target: "ab"}, {Event: "aa", Target: "b"},
		// Guards: one term's Op, N or Name; how many terms; their order.
		{Guard: num(0)}, {Guard: num(1)}, {Guard: num(-1)}, {Guard: num(math.MaxInt)}, {Guard: name(api.TmVar, "x")}, {Guard: name(api.TmVar, "y")}, {Guard: name(api.TmIn, "x")}, {Guard: name(api.TmVar, "")}, {Guard: []api.Term{{}}}, {Guard: make([]api.Term, 2)}, {Guard: []api.Term{{Op: api.TmTrue}}}, {Guard: []api.Term{{Op: api.TmTrue, N: 1}}},
		{Guard: slices.Concat(num(0), num(1))}, {Guard: slices.Concat(num(1), num(0))}, {Guard: slices.Concat(num(0), num(1), num(1))}, {Guard: sum(2)}, {Guard: nots(2)}, {Guard: nots(3)}, {Guard: sum(21)}, {Guard: append(sum(21), api.Term{})},
		{Guard: slices.Concat([]api.Term{{Op: api.TmAdd}}, num(1), num(2))}, {Guard: slices.Concat([]api.Term{{Op: api.TmAdd}}, num(2), num(1))}, {Guard: slices.Concat([]api.Term{{Op: api.TmSub}}, num(1), num(2))},
		// Acts: one's Name, Any or Expr; how many; their order.
		{Acts: anys(1)}, {Acts: anys(2)}, {Acts: anys(8)}, {Acts: anys(9)}, {Acts: []api.Act{{}}}, {Acts: make([]api.Act, 2)}, {Acts: []api.Act{{Any: true}}}, {Acts: []api.Act{{Name: "y", Any: true}}}, {Acts: []api.Act{{Name: "x"}}}, {Acts: []api.Act{{Name: "x", Any: true, Expr: num(1)}}},
		{Acts: []api.Act{{Name: "x", Expr: num(1)}}}, {Acts: []api.Act{{Name: "y", Expr: num(1)}}}, {Acts: []api.Act{{Name: "x", Expr: num(2)}}}, {Acts: []api.Act{{Name: "x", Expr: name(api.TmVar, "x")}}}, {Acts: []api.Act{{Name: "x", Expr: name(api.TmVar, "y")}}}, {Acts: []api.Act{{Name: "x", Expr: name(api.TmIn, "x")}}}, {Acts: []api.Act{{Name: "x", Expr: sum(2)}}}, {Acts: []api.Act{{Name: "x", Expr: slices.Concat(num(1), num(1))}}},
		{Acts: []api.Act{{Name: "x", Any: true}, {Name: "y", Any: true}}}, {Acts: []api.Act{{Name: "y", Any: true}, {Name: "x", Any: true}}}, {Acts: []api.Act{{Name: "x", Any: true}, {Name: "x", Expr: num(1)}}}, {Acts: []api.Act{{Name: "x", Expr: num(1)}, {Name: "x", Any: true}}}, {Acts: []api.Act{{Name: "x", Expr: num(1)}, {Name: "y", Expr: num(2)}}}, {Acts: []api.Act{{Name: "x", Expr: num(1)}, {Name: "y", Expr: num(3)}}},
	}
	// Each part that may be told, by itself and beside the others.
	for part := 1; part < 16; part++ {
		tr := api.Trans{Event: "e", Guard: nots(1), Acts: []api.Act{{Name: "z", Any: true}}, Target: "t"}
		if part&1 == 0 {
			tr.Event = ""
		}
		if part&2 == 0 {
			tr.Guard = nil
		}
		if part&4 == 0 {
			tr.Acts = nil
		}
		if part&8 == 0 {
			tr.Target = ""
		}
		all = append(all, tr)
	}
	return all
}

// copied is a transition in lists of its own; a list in which nothing stands is none, or an empty one.
func copied(tr api.Trans, none bool) api.Trans {
	terms := func(l []api.Term) []api.Term {
		if none && len(l) == 0 {
			return nil
		}
		return append([]api.Term{}, l...)
	}
	tr.Guard = terms(tr.Guard)
	own := []api.Act{}
	for _, a := range tr.Acts {
		own = append(own, api.Act{Name: a.Name, Any: a.Any, Expr: terms(a.Expr)})
	}
	if tr.Acts = own; none && len(own) == 0 {
		tr.Acts = nil
	}
	return tr
}

// Tr1: Same, at each two of transitions that differ in one part, and at each one and its copies.
func TestSame(t *testing.T) {
	all := different()
	for i, a := range all {
		for k, b := range all {
			for _, one := range []api.Trans{b, copied(b, true), copied(b, false)} {
				if got := trans.Same(a, one); got != (i == k) {
					t.Errorf("Same(%v, %v): %t", a, one, got)
				}
				if got := trans.Same(one, a); got != (i == k) {
					t.Errorf("Same(%v, %v): %t", one, a, got)
				}
			}
		}
		if !trans.Same(copied(a, true), copied(a, false)) || !trans.Same(copied(a, false), copied(a, true)) {
			t.Errorf("Same of %v: an empty list is not the same as none", a)
		}
	}
	// A part that differs in what is read, but not in what it is.
	read := func(s string) api.Trans { return trans.Read(cursor.New(reading.Tokens(t, s))) }
	for _, c := range []struct {
		a, b string
		want bool
	}{
		{"on a [((x)) + 1] / y := (1) -> b;", "on a[x+1]/y:=1->b ; # no", true}, {"auto;", "auto # on\n;", true},
		{"on a;", "auto;", false}, {"on a;", "auto -> a;", false}, {"auto [x];", "auto / x := x;", false}, {"auto [true];", "auto;", false}, {"auto [a - b - c];", "auto [a - (b - c)];", false}, {"auto / x := x;", "auto;", false}, {"auto / any x, any x;", "auto / any x;", false}, {"on a [x] / any y -> b;", "on a [x] / any y -> c;", false},
	} {
		if a, b := read(c.a), read(c.b); trans.Same(a, b) != c.want || trans.Same(b, a) != c.want {
			t.Errorf("Same(%v, %v): not %t", a, b, c.want)
		}
	}
	// Great ones, that differ just at their ends.
	a, b := api.Trans{Guard: nots(100000), Acts: anys(100000)}, api.Trans{Guard: nots(100000), Acts: anys(100000)}
	if !trans.Same(a, b) {
		t.Error("Same of great transitions: false")
	}
	b.Acts[99999].Name = "y"
	if trans.Same(a, b) {
		t.Error("Same of great transitions whose last acts differ: true")
	}
	b.Acts[99999].Name, b.Guard[100000].Name = "x", "y"
	if trans.Same(a, b) {
		t.Error("Same of great transitions whose last terms differ: true")
	}
}

// P1: great inputs end, without a panic.
func TestGreatTexts(t *testing.T) {
	open, shut := strings.Repeat("(", 1500), strings.Repeat(")", 1500)
	l := reading.Tokens(t, "on a ["+open+"x"+shut+"] / y := "+open[:400]+"1"+shut[:400]+" -> b;")
	checkRead(t, l, made(t, parts{"a", "x", "y := 1", "b"}), l[len(l)-1])
	checkFaultAt(t, "auto ["+open+"x@];", api.ErrText)
	many := slices.Concat(reading.Words("auto"), slices.Repeat(reading.Words("["), 1<<16))
	checkFault(t, reading.Placed(many), api.Pos{Line: 3, Col: 7}, api.ErrText)
	deep := slices.Concat(reading.Words("auto ["), slices.Repeat(reading.Words("("), 1<<16-1), reading.Words("x"), slices.Repeat(reading.Words(")"), 1<<16-1), reading.Words("] ;"))
	checkRead(t, deep, api.Trans{Guard: sum(1)}, api.Token{})
	long := slices.Concat(reading.Words("auto / x := 1"), slices.Repeat(reading.Words("+ 1"), 1<<16), reading.Words(";"))
	checkFault(t, reading.Placed(long), api.Pos{Line: len(long), Col: 7}, api.ErrFull)
}

// roomy is a copy of a transition, with room behind each list's end, in which something stands; and what tells whether that is all as it was.
func roomy(tr api.Trans) (api.Trans, func() bool) {
	spare, spareAct := api.Term{Op: api.TmIn, N: 9, Name: "spare"}, api.Act{Name: "spare", Any: true}
	guard := slices.Concat(tr.Guard, []api.Term{spare, spare})
	all := slices.Concat(tr.Acts, []api.Act{spareAct, spareAct})
	var terms [][]api.Term
	for at, a := range tr.Acts {
		one := slices.Concat(a.Expr, []api.Term{spare, spare})
		terms = append(terms, one)
		all[at].Expr = one[:len(a.Expr)]
	}
	handed := api.Trans{Event: tr.Event, Guard: guard[:len(tr.Guard)], Acts: all[:len(tr.Acts)], Target: tr.Target}
	wasGuard, wasActs, wasTerms := slices.Clone(guard), slices.Concat(tr.Acts, []api.Act{spareAct, spareAct}), [][]api.Term{}
	for _, one := range terms {
		wasTerms = append(wasTerms, slices.Clone(one))
	}
	return handed, func() bool {
		return slices.Equal(guard, wasGuard) && sameActs(all, wasActs) && slices.EqualFunc(terms, wasTerms, slices.Equal[[]api.Term])
	}
}

// R3, R4: no call writes to the transition that it is handed, nor behind its lists' ends; a second answer is the first one.
func TestHandedIn(t *testing.T) {
	all := different()
	for _, p := range combinations() {
		all = append(all, made(t, p))
	}
	for _, g := range guards() {
		for _, l := range lists() {
			if len(g.l) < 100 && len(l.l) < 100 {
				all = append(all, api.Trans{Event: "a", Guard: g.l, Acts: l.l, Target: "b"})
			}
		}
	}
	for at, tr := range all {
		handed, still := roomy(tr)
		other, otherStill := roomy(all[(at+1)%len(all)])
		e := trans.Check(handed)
		s, f := trans.Put(handed)
		is := trans.Same(handed, other)
		if !trans.Same(handed, tr) || !trans.Same(tr, handed) {
			t.Errorf("Same(%v, %v): false", handed, tr)
		}
		if r, g := trans.Put(handed); r != s || g != f || trans.Check(handed) != e || trans.Same(handed, other) != is {
			t.Errorf("the calls of %v answer another thing a second time", handed)
		}
		if !still() || !otherStill() {
			t.Errorf("what was handed in is now %v, %v", handed, other)
		}
	}
}

// R3: what Read answers is new: written to, it changes no token, no other part of it, and no later answer.
func TestReadIsNew(t *testing.T) {
	tokens := reading.Tokens(t, "on a [a + b] / x := a + b, any y, z := a + b -> b;")
	was, want := slices.Clone(tokens), made(t, parts{"a", "a + b", "x := a + b, any y, z := a + b", "b"})
	c := cursor.New(tokens)
	got := trans.Read(c)
	if !slices.Equal(tokens, was) || !same(got, want) {
		t.Fatalf("Read: %v; what was handed in is now %v", got, tokens)
	}
	scrawl := func(l []api.Term) []api.Term {
		l = append(l, api.Term{Op: 99})
		for at := range l {
			l[at] = api.Term{Op: 99}
		}
		return l
	}
	got.Guard = scrawl(got.Guard)
	if !sameActs(got.Acts, want.Acts) {
		t.Errorf("the Guard is written to, and the Acts are now %v", got.Acts)
	}
	got.Acts[0].Expr = scrawl(got.Acts[0].Expr)
	if !sameActs(got.Acts[1:], want.Acts[1:]) {
		t.Errorf("an act is written to, and the others are now %v", got.Acts)
	}
	got.Acts = append(got.Acts, api.Act{Name: "more"})
	got.Acts[2] = api.Act{Name: "other"}
	if !slices.Equal(tokens, was) || !c.Is(api.TokEnd, "") {
		t.Errorf("what was handed in is now %v", tokens)
	}
	checkRead(t, tokens, want, tokens[len(tokens)-1])
}
