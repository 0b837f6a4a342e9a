package print_test

import (
	"math"
	"slices"
	"strconv"
	"strings"
	"testing"

	"semblance/api"
	"semblance/charts"
	"semblance/print"
	"semblance/reading"
	"semblance/syntax"
)

// What the tests of charts have in common, by short names.
var (
	leaf, or, and, having = charts.Leaf, charts.Or, charts.And, charts.Having
	rich, wide, long      = charts.Rich, charts.Wide, charts.Long
)

// checkPut: a chart may be told, and has that text, which is read as the same chart.
func checkPut(t *testing.T, c api.Chart, want string) {
	t.Helper()
	if e := print.Check(c); e != api.OK {
		t.Errorf("Check(%v): error %d", c, e)
	}
	got, e := print.Put(c)
	if got != want || e != api.OK {
		t.Errorf("Put(%v): error %d,\n%s, not\n%s", c, e, got, want)
	}
	if again, at, e := syntax.Parse(got); !charts.Same(again, c) || e != api.OK {
		t.Errorf("Put(%v):\n%s, read as %v, error %d at %v", c, got, again, e, at)
	}
}

// checkNone: a chart may not be told.
func checkNone(t *testing.T, c api.Chart) {
	t.Helper()
	if e := print.Check(c); e != api.ErrArg {
		t.Errorf("Check(%v): error %d", c, e)
	}
	if got, e := print.Put(c); got != "" || e != api.ErrArg {
		t.Errorf("Put(%v): error %d,\n%s", c, e, got)
	}
}

// checkLong: a chart may be told, but its text is too long.
func checkLong(t *testing.T, c api.Chart) {
	t.Helper()
	if e := print.Check(c); e != api.OK {
		t.Errorf("Check of a long chart: error %d", e)
	}
	if got, e := print.Put(c); got != "" || e != api.ErrLong {
		t.Errorf("Put of a long chart: error %d, %d bytes", e, len(got))
	}
}

// door is the text of the document's chart.
const door = charts.DoorForm

// Pt1, Pt2: the chapter's example, and the document's chart, whose text has 12 lines.
func TestExample(t *testing.T) {
	checkPut(t, api.Chart{Name: "c", States: []api.State{leaf("a", -1)}}, "chart c {\n  leaf a;\n}\n")
	checkPut(t, charts.DoorChart(), door)
	got, _ := print.Put(charts.DoorChart())
	lines := strings.Split(got, "\n")
	if len(lines) != 13 || lines[4] != "    leaf shut {" || lines[12] != "" {
		t.Errorf("Put of the document's chart: %q", lines)
	}
}

// Pt1, Pt2: charts with and without events and variables.
func TestHeads(t *testing.T) {
	a := []api.State{leaf("a", -1)}
	for _, c := range []struct {
		events []string
		vars   []api.Var
		want   string
	}{
		{nil, nil, ""},
		{[]string{}, []api.Var{}, ""},
		{[]string{"go"}, nil, "  event go;\n"},
		{[]string{"go", "come"}, nil, "  event go, come;\n"},
		{[]string{"b", "a", "b", "c", "chart_"}, []api.Var{}, "  event b, a, b, c, chart_;\n"},
		{strings.Fields("h g f e d c b abcdefghijkl"), nil, "  event h, g, f, e, d, c, b, abcdefghijkl;\n"},
		{nil, []api.Var{{Name: "n", Lo: -1, Hi: 3}}, "  var n -1 .. 3 = 0;\n"},
		{[]string{}, []api.Var{{Name: "n"}}, "  var n 0 .. 0 = 0;\n"},
		{nil, []api.Var{{Name: "b", Lo: 1, Hi: 2, Init: 3}, {Name: "a", Lo: -30, Hi: -20, Init: -10}}, "  var b 1 .. 2 = 3;\n  var a -30 .. -20 = -10;\n"},
		{[]string{"n"}, []api.Var{{Name: "n", Lo: 9, Hi: -9, Init: 100}, {Name: "n", Lo: 9, Hi: -9, Init: 100}}, "  event n;\n  var n 9 .. -9 = 100;\n  var n 9 .. -9 = 100;\n"},
		{[]string{"a", "b"}, []api.Var{{Name: "d", Lo: -1000, Hi: 1000, Init: -1}, {Name: "c", Lo: 1000, Hi: -1000, Init: 1000}, {Name: "abcdefghijkl", Hi: 1, Init: -1000}, {Name: "a", Lo: 7, Hi: 7, Init: 7}}, "  event a, b;\n  var d -1000 .. 1000 = -1;\n  var c 1000 .. -1000 = 1000;\n  var abcdefghijkl 0 .. 1 = -1000;\n  var a 7 .. 7 = 7;\n"},
	} {
		checkPut(t, api.Chart{Name: "abcdefghijkl", Events: c.events, Vars: c.vars, States: a}, "chart abcdefghijkl {\n"+c.want+"  leaf a;\n}\n")
	}
	// All numbers that may stand there, and those beyond.
	for n := -1010; n <= 1010; n++ {
		s := strconv.Itoa(n)
		c := api.Chart{Name: "c", Vars: []api.Var{{Name: "x", Lo: n, Hi: 2, Init: 3}, {Name: "y", Lo: 4, Hi: n, Init: 5}, {Name: "z", Lo: 6, Hi: 7, Init: n}}, States: a}
		if -1000 <= n && n <= 1000 {
			checkPut(t, c, "chart c {\n  var x "+s+" .. 2 = 3;\n  var y 4 .. "+s+" = 5;\n  var z 6 .. 7 = "+s+";\n  leaf a;\n}\n")
			continue
		}
		checkNone(t, c)
	}
	for _, n := range []int{1001, -1001, 1000000, -1000000, 1 << 32, -1 << 32, math.MaxInt, math.MinInt} {
		for _, v := range []api.Var{{Name: "x", Lo: n}, {Name: "x", Hi: n}, {Name: "x", Init: n}} {
			checkNone(t, api.Chart{Name: "c", Vars: []api.Var{v}, States: a})
			checkNone(t, api.Chart{Name: "c", Vars: []api.Var{{Name: "w"}, {Name: "w"}, v}, States: a})
		}
	}
}

// Pt1, Pt2: states with nothing within them, and with something.
func TestStates(t *testing.T) {
	for _, c := range []struct {
		states []api.State
		want   string
	}{
		{[]api.State{leaf("a", -1)}, "  leaf a;\n"}, {[]api.State{or("a", -1)}, "  or a;\n"}, {[]api.State{and("a", -1)}, "  and a;\n"},
		{[]api.State{having(t, leaf("a", -1), "any x", "", "")}, "  leaf a {\n    enter any x;\n  }\n"},
		{[]api.State{having(t, or("a", -1), "", "x := -1", "")}, "  or a {\n    exit x := -1;\n  }\n"},
		{[]api.State{having(t, and("a", -1), "", "", "on b;")}, "  and a {\n    on b;\n  }\n"},
		{[]api.State{having(t, leaf("a", -1), "x:=(1),any y", "x:=(y*(x+1))", "auto->b;on b[(x<min(1,y))]/any z->a;auto;")}, "  leaf a {\n    enter x := 1, any y;\n    exit x := y * (x + 1);\n    auto -> b;\n    on b [x < min(1, y)] / any z -> a;\n    auto;\n  }\n"},
		{[]api.State{or("a", -1), leaf("b", 0)}, "  or a {\n    leaf b;\n  }\n"},
		{[]api.State{and("a", -1), or("b", 0), and("c", 0)}, "  and a {\n    or b;\n    and c;\n  }\n"},
		{[]api.State{having(t, or("a", -1), "any x", "any y", "on b;"), having(t, leaf("a", 0), "", "any z", "")}, "  or a {\n    enter any x;\n    exit any y;\n    on b;\n    leaf a {\n      exit any z;\n    }\n  }\n"},
		// How many braces are shut behind an inner one.
		{[]api.State{or("a", -1), or("b", 0), or("c", 1), or("d", 2)}, "  or a {\n    or b {\n      or c {\n        or d;\n      }\n    }\n  }\n"},
		{[]api.State{or("a", -1), or("b", 0), leaf("c", 1), leaf("d", 1), leaf("e", 0)}, "  or a {\n    or b {\n      leaf c;\n      leaf d;\n    }\n    leaf e;\n  }\n"},
		{[]api.State{or("a", -1), and("b", 0), or("c", 1), having(t, leaf("d", 2), "", "", "auto;"), or("e", 1), leaf("f", 4), leaf("g", 0), and("h", 0)}, "  or a {\n    and b {\n      or c {\n        leaf d {\n          auto;\n        }\n      }\n      or e {\n        leaf f;\n      }\n    }\n    leaf g;\n    and h;\n  }\n"},
		{[]api.State{or("a", -1), or("b", 0), or("c", 1), leaf("d", 2), having(t, leaf("e", 0), "any x", "", ""), or("f", 0), leaf("g", 5)}, "  or a {\n    or b {\n      or c {\n        leaf d;\n      }\n    }\n    leaf e {\n      enter any x;\n    }\n    or f {\n      leaf g;\n    }\n  }\n"},
		// Names that stand twice, and names that nobody has.
		{[]api.State{or("a", -1), having(t, leaf("a", 0), "", "", "on nothing [in(nobody) and none == 1] / any none -> nowhere;"), leaf("a", 0)}, "  or a {\n    leaf a {\n      on nothing [in(nobody) and none == 1] / any none -> nowhere;\n    }\n    leaf a;\n  }\n"},
	} {
		checkPut(t, api.Chart{Name: "c", States: c.states}, "chart c {\n"+c.want+"}\n")
		checkPut(t, api.Chart{Name: "c", Events: []string{"e"}, Vars: []api.Var{{Name: "v"}}, States: c.states}, "chart c {\n  event e;\n  var v 0 .. 0 = 0;\n"+c.want+"}\n")
	}
}

// actLists are all lists of acts of a chart, where they may be written to.
func actLists(c *api.Chart) []*[]api.Act {
	var all []*[]api.Act
	for at := range c.States {
		s := &c.States[at]
		all = append(all, &s.Enter, &s.Exit)
		for k := range s.Trans {
			all = append(all, &s.Trans[k].Acts)
		}
	}
	return all
}

// guards are all Guards of a chart, where they may be written to.
func guards(c *api.Chart) []*[]api.Term {
	var all []*[]api.Term
	for at := range c.States {
		for k := range c.States[at].Trans {
			all = append(all, &c.States[at].Trans[k].Guard)
		}
	}
	return all
}

// allNames are all names of a chart, where they may be written to; and those that may be empty too.
func allNames(c *api.Chart) (must, may []*string) {
	must = []*string{&c.Name}
	for at := range c.Events {
		must = append(must, &c.Events[at])
	}
	for at := range c.Vars {
		must = append(must, &c.Vars[at].Name)
	}
	lists := guards(c)
	for _, acts := range actLists(c) {
		for at := range *acts {
			must = append(must, &(*acts)[at].Name)
			lists = append(lists, &(*acts)[at].Expr)
		}
	}
	for _, l := range lists {
		for at := range *l {
			if (*l)[at].Name != "" {
				must = append(must, &(*l)[at].Name)
			}
		}
	}
	for at := range c.States {
		must = append(must, &c.States[at].Name)
		for k := range c.States[at].Trans {
			may = append(may, &c.States[at].Trans[k].Event, &c.States[at].Trans[k].Target)
		}
	}
	return must, may
}

// Pt1, Pt2: each place of a name, with names and with what is none.
func TestNames(t *testing.T) {
	c := rich(t)
	checkTold(t, c)
	must, may := allNames(&c)
	if len(must) != 1+2+2+4+6*(3+2)+2*2 || len(may) != 2*3*2 {
		t.Fatalf("%d and %d names", len(must), len(may))
	}
	good := strings.Fields("z a b z9 z_ abcdefghijkl zzzzzzzzzzzz chart_ events leaf1 ors minn")
	bad := strings.Fields("chart event var leaf or and enter exit on auto any in min max not true false abcdefghijklm A aB 1a _a a-b a.b é 1 ; { # aé")
	bad = append(bad, " ", "a b", "a ", " a", "a\n", "\n", "\x00", "a\x00", "\xff", "a\xff", "a\x80", strings.Repeat("a", 1<<16))
	for at, where := range slices.Concat(must, may) {
		was := *where
		for _, *where = range good {
			checkTold(t, c)
		}
		for _, *where = range bad {
			checkNone(t, c)
		}
		if *where = ""; at < len(must) {
			checkNone(t, c)
		} else {
			checkTold(t, c)
		}
		*where = was
	}
}

// Pt1: as many events, variables, and transitions of one state as may be, and one more.
func TestLimits(t *testing.T) {
	for many := range 12 {
		events := slices.Repeat([]string{"e"}, many)
		vars := slices.Repeat([]api.Var{{Name: "v", Lo: 1, Hi: 2, Init: 1}}, many)
		c := rich(t)
		if c.Events = events; many <= 8 {
			checkTold(t, c)
		} else {
			checkNone(t, c)
		}
		c = rich(t)
		if c.Vars = vars; many <= 4 {
			checkTold(t, c)
		} else {
			checkNone(t, c)
		}
		// One of them is no name.
		for at := range many {
			c = rich(t)
			c.Events = slices.Clone(events)
			c.Events[at] = "or"
			checkNone(t, c)
			c = rich(t)
			c.Vars = slices.Clone(vars)
			c.Vars[at].Name = ""
			checkNone(t, c)
		}
	}
	for many := range 20 {
		for at := range 4 {
			c := rich(t)
			c.States[at].Trans = charts.Transitions(t, strings.Repeat("on a [x] -> b; ", many))
			if many <= 16 {
				checkTold(t, c)
			} else {
				checkNone(t, c)
			}
			for k := range many {
				was := c.States[at].Trans[k]
				c.States[at].Trans[k].Target = "or"
				checkNone(t, c)
				c.States[at].Trans[k] = was
			}
		}
	}
}

// variable is an expression: a variable.
func variable() []api.Term { return wide(1) }

// least is the least of so many of a variable, two by two, as deep as they are many.
func least(many int) []api.Term {
	return append(slices.Repeat([]api.Term{{Op: api.TmMin}}, many-1), slices.Repeat(variable(), many)...)
}

// minus is so many minus signs, and an expression behind them.
func minus(many int, l []api.Term) []api.Term {
	return append(slices.Repeat([]api.Term{{Op: api.TmNeg}}, many), l...)
}

// badExprs are terms that are no expressions that may be, by each of layer 5's errors; none are none of them.
func badExprs() [][]api.Term {
	x, number := variable(), api.Term{Op: api.TmNum, N: 1}
	return [][]api.Term{
		slices.Concat(x, x), {{Op: api.TmNeg}}, append([]api.Term{{Op: api.TmAdd}}, x...), {{}}, {{Op: 21}}, {{Op: -1}}, {{Op: math.MaxInt}},
		{{Op: api.TmNum, N: -1}}, {{Op: api.TmNum, N: 1000001}}, {{Op: api.TmNum, N: 1, Name: "x"}}, {{Op: api.TmVar}}, {{Op: api.TmVar, Name: "or"}}, {{Op: api.TmVar, Name: "x", N: 1}}, {{Op: api.TmTrue, N: 1}}, {{Op: api.TmIn}}, {{Op: api.TmAdd, Name: "x"}, number, number},
		minus(12, x), minus(39, x), least(13), minus(40, x), wide(21), slices.Repeat(x, 41), slices.Repeat([]api.Term{{}}, 1<<16),
	}
}

// Pt1, Pt2: terms that are no expression that may be, at each place of one; and the longest and deepest that may be.
func TestExprs(t *testing.T) {
	good := [][]api.Term{variable(), {{Op: api.TmNum, N: 1000000}}, {{Op: api.TmTrue}}, minus(11, variable()), least(12), minus(1, wide(20)), wide(20)}
	c := rich(t)
	places := guards(&c)
	for at, where := range places {
		checkAll(t, &c, where, append(good, nil, []api.Term{}), badExprs())
		if at == 0 && len(places) != 6 {
			t.Errorf("%d guards", len(places))
		}
	}
	for _, acts := range actLists(&c) {
		for at := range *acts {
			a := &(*acts)[at]
			if a.Any {
				// Beside Any there is no Expr.
				checkAll(t, &c, &a.Expr, [][]api.Term{nil, {}}, append(good, badExprs()...))
			} else {
				checkAll(t, &c, &a.Expr, good, append(badExprs(), nil, []api.Term{}))
			}
		}
	}
}

// checkAll: a chart may be told with some things at a place of it, and not with others; then what stood there stands there again.
func checkAll[T any](t *testing.T, c *api.Chart, where *T, good, bad []T) {
	t.Helper()
	was := *where
	for _, *where = range good {
		checkTold(t, *c)
	}
	for _, *where = range bad {
		checkNone(t, *c)
	}
	*where = was
}

// Pt1, Pt2: acts that may not be, wherever acts stand, and as many as may be.
func TestActs(t *testing.T) {
	anyX, put := api.Act{Name: "x", Any: true}, api.Act{Name: "x", Expr: wide(20)}
	full := slices.Repeat([]api.Act{anyX, put}, 4)
	good := [][]api.Act{nil, {}, {anyX}, {put}, {put, anyX}, full[:7], full, full[1:]}
	bad := [][]api.Act{slices.Concat(full, full[:1]), slices.Concat(full, full), slices.Repeat(full, 1<<13)}
	for _, one := range []api.Act{{}, {Any: true}, {Name: "or", Any: true}, {Name: "x"}, {Name: "x", Expr: []api.Term{}}, {Expr: wide(1)}, {Name: "x", Any: true, Expr: wide(1)}, {Name: "x", Expr: minus(12, wide(1))}, {Name: "x", Expr: wide(21)}} {
		bad = append(bad, []api.Act{one}, []api.Act{one, anyX}, []api.Act{put, one}, slices.Concat(full[:7], []api.Act{one}), slices.Concat(full, []api.Act{one}))
	}
	c := rich(t)
	for _, where := range actLists(&c) {
		checkAll(t, &c, where, good, bad)
	}
}

// Pt1: states that may not stand so, too many of them, and too deep ones are ErrArg alike.
func TestNoStates(t *testing.T) {
	deep := charts.Nested([]int{1, 2, 3, 4, 5, 6, 7, 8, 9, 10, 11, 12, 13})
	many := append([]api.State{or("a", -1)}, slices.Repeat([]api.State{leaf("b", 0)}, 60)...)
	for _, l := range [][]api.State{
		nil, {}, {leaf("a", 0)}, {leaf("a", -2)}, {leaf("a", 1)}, {{Name: "a", Parent: -1}}, {{Name: "a", Kind: 4, Parent: -1}}, {or("a", -1), leaf("b", -1)}, {or("a", -1), leaf("b", 1)}, {or("a", -1), or("b", 2), leaf("d", 0)}, {leaf("a", -1), leaf("b", 0)}, {or("a", -1), leaf("b", 0), leaf("d", 1)}, {or("a", -1), or("b", 0), or("d", 0), leaf("e", 1)}, {or("a", -1), leaf("b", math.MaxInt)}, {or("a", -1), leaf("b", math.MinInt)},
		deep, many, slices.Concat(many, many), slices.Concat(many, deep),
	} {
		c := rich(t)
		c.States = l
		checkNone(t, c)
		c.Name = ""
		checkNone(t, c)
	}
	checkNone(t, api.Chart{})
	for _, l := range [][]api.State{deep[:12], many[:60]} {
		c := rich(t)
		c.States = l
		checkTold(t, c)
	}
}

// longer is a chart, with so many bytes more in its names.
func longer(c api.Chart, many int) api.Chart {
	c = charts.Roomy(c)
	for at := range c.States {
		s := &c.States[at]
		more := min(many, 12-len(s.Name))
		s.Name, many = s.Name+strings.Repeat("z", more), many-more
	}
	return c
}

// Pt1, Pt2: a text of as many tokens as may be, and of more.
func TestTokens(t *testing.T) {
	for many := 3970; many <= 4030; many++ {
		c := long(t, many)
		if got := reading.Count(t, told(c)); got != many {
			t.Fatalf("the test's own text has %d tokens, not %d", got, many)
		}
		if many <= 4000 {
			checkTold(t, c)
		} else {
			checkLong(t, c)
		}
	}
}

// Pt1, Pt2: a text of as many bytes as may be, and of more: such texts have too many tokens too.
func TestBytes(t *testing.T) {
	// One with few tokens for all its bytes.
	c := charts.Longest()
	if s := told(c); len(s) < 50000 || reading.Count(t, s) > 4000 {
		t.Errorf("the test's own text has %d bytes, and %d tokens", len(s), reading.Count(t, s))
	}
	checkTold(t, c)
	// One that is as long as may be.
	many := 4001
	for len(told(long(t, many+256))) < 1<<16 {
		many += 256
	}
	for len(told(long(t, many+8))) < 1<<16 {
		many += 8
	}
	c = long(t, many)
	size := len(told(c))
	for bytes := 1<<16 - 3; bytes <= 1<<16+3; bytes++ {
		other := longer(c, bytes-size)
		if got := len(told(other)); got != bytes {
			t.Fatalf("the test's own text has %d bytes, not %d", got, bytes)
		}
		checkLong(t, other)
	}
	// As much of all as may be.
	full := slices.Repeat([]api.Act{{Name: "abcdefghijkl", Expr: wide(20)}}, 8)
	for at := range c.States {
		c.States[at].Enter, c.States[at].Exit, c.States[at].Trans = full, full, slices.Repeat([]api.Trans{{Event: "abcdefghijkl", Guard: wide(20), Acts: full, Target: "abcdefghijkl"}}, 16)
	}
	checkLong(t, c)
	if got := len(told(c)); got < 1<<19 {
		t.Errorf("the test's own text has %d bytes", got)
	}
}

// Pt1: what may not be told is ErrArg, also if its text would be too long.
func TestArgAheadOfLong(t *testing.T) {
	for _, many := range []int{4000, 4001, 6000} {
		for which := range 6 {
			c := long(t, many)
			last := len(c.States) - 1
			switch which {
			case 0:
				c.Name = "or"
			case 1:
				c.Events = []string{""}
			case 2:
				c.Vars = []api.Var{{Name: "x", Hi: 1001}}
			case 3:
				c.States[last].Kind = 0
			case 4:
				c.States[last].Trans[0].Event = "or"
			case 5:
				c.States[last].Exit = make([]api.Act, 1)
			}
			checkNone(t, c)
		}
	}
}

// R3, R4, R5: no call writes to what it is handed, nor behind the end of its lists; a second answer is the first one; no list is as an empty one.
func TestHandedIn(t *testing.T) {
	all := append(charts.Combinations(t), charts.DoorChart(), rich(t), long(t, 4000), long(t, 4001), api.Chart{}, api.Chart{Name: "c"})
	for seed := range 300 {
		all = append(all, charts.Some(seed))
	}
	for _, c := range all {
		first, fault := print.Put(c)
		// Here there is no list that is nil.
		other := charts.Roomy(c)
		for range 2 {
			if got, e := print.Put(other); got != first || e != fault {
				t.Errorf("Put(%v): error %d,\n%s; a second time error %d,\n%s", c, fault, first, e, got)
			}
			print.Check(other)
		}
		if now := charts.Behind(other); !charts.Same(now, charts.Behind(charts.Roomy(c))) {
			t.Errorf("Put(%v): what was handed in is now %v", c, now)
		}
	}
}

// P1: great inputs end, without a panic.
func TestGreat(t *testing.T) {
	for which := range 7 {
		c, many := rich(t), 1<<18
		switch which {
		case 0:
			c.Events = slices.Repeat([]string{"a"}, many)
		case 1:
			c.Vars = make([]api.Var, many)
		case 2:
			c.States = slices.Repeat(c.States, many/4)
		case 3:
			c.States[2].Enter = make([]api.Act, many)
		case 4:
			c.States[2].Trans = make([]api.Trans, many)
		case 5:
			c.States[0].Trans[1].Guard = minus(many, variable())
		case 6:
			c.Name = strings.Repeat("a", 64*many)
		}
		if e := print.Check(c); e != api.ErrArg {
			t.Errorf("Check of a great chart: error %d", e)
		}
		if s, e := print.Put(c); s != "" || e != api.ErrArg {
			t.Errorf("Put of a great chart: error %d", e)
		}
	}
}

// Pt1: each piece stands on a line of its own, ended by a line feed, two blanks ahead for each brace that is open.
func TestLines(t *testing.T) {
	all := append(charts.Combinations(t), charts.DoorChart(), rich(t), charts.Longest())
	for seed := range 300 {
		all = append(all, charts.Some(seed))
	}
	for _, c := range all {
		s, _ := print.Put(c)
		open := 0
		for line := range strings.Lines(s) {
			if strings.HasSuffix(line, "}\n") {
				open--
			}
			bare, is := strings.CutPrefix(line, strings.Repeat(" ", 2*open))
			bare, ended := strings.CutSuffix(bare, "\n")
			if last := len(bare) - 1; !is || !ended || strings.TrimSpace(bare) != bare || strings.IndexAny(bare, "{};\r\t\n") != last {
				t.Errorf("Put(%v): the line %q where %d braces are open", c, line, open)
			}
			if strings.HasSuffix(line, "{\n") {
				open++
			}
		}
		if open != 0 || !strings.HasSuffix(s, "\n}\n") {
			t.Errorf("Put(%v):\n%s", c, s)
		}
	}
}
