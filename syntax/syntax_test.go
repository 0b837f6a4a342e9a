package syntax_test

import (
	"slices"
	"strconv"
	"strings"
	"testing"

	"semblance/api"
	"semblance/charts"
	"semblance/cursor"
	"semblance/reading"
	"semblance/scan"
	"semblance/shape"
	"semblance/syntax"
)

// keywords are all of them, by the document's words.
const keywords = "chart event var leaf or and enter exit on auto any in min max not true false"

// What the tests of charts have in common, by short names.
var (
	leaf, or, and, having = charts.Leaf, charts.Or, charts.And, charts.Having
	same, sameState       = charts.Same, charts.SameState
)

// checkRead: Read of tokens is that; then that token is next, and there is no fault.
func checkRead(t *testing.T, l []api.Token, want api.Chart, next api.Token) {
	t.Helper()
	reading.Check(t, l, syntax.Read, same, want, next)
}

// checkFault: Read of tokens is the zero chart, and that fault.
func checkFault(t *testing.T, l []api.Token, want api.Pos, fault api.Errno) {
	t.Helper()
	reading.CheckFault(t, l, syntax.Read, same, want, fault)
}

// zero tells whether a chart is the zero one.
func zero(c api.Chart) bool {
	return c.Name == "" && len(c.Events)+len(c.Vars)+len(c.States) == 0
}

// checkParse: Parse of a text is that, and no fault; and so is Read of its tokens, which goes to their end.
func checkParse(t *testing.T, s string, want api.Chart) {
	t.Helper()
	if got, at, e := syntax.Parse(s); !same(got, want) || at != (api.Pos{}) || e != api.OK {
		t.Errorf("Parse(%q): %v, %v, error %d, not %v", s, got, at, e, want)
	}
	l := reading.Tokens(t, s)
	checkRead(t, l, want, l[len(l)-1])
}

// checkNone: Parse of a text is the zero chart, and that fault.
func checkNone(t *testing.T, s string, want api.Pos, fault api.Errno) {
	t.Helper()
	if got, at, e := syntax.Parse(s); !zero(got) || at != want || e != fault {
		t.Errorf("Parse(%q): %v, %v, error %d, not %v, error %d", s, got, at, e, want, fault)
	}
}

// checkFaultAt: of a text without its @ Parse is the zero chart, and that fault where the @ stood; and so is Read of its tokens.
func checkFaultAt(t *testing.T, s string, fault api.Errno) {
	t.Helper()
	text, at := reading.Marked(t, s)
	checkNone(t, text, at, fault)
	checkFault(t, reading.Tokens(t, text), at, fault)
}

// Sy1, Sy2: the chapter's example, and the document's chart: whole, without its last brace, and with an event told twice.
func TestExample(t *testing.T) {
	checkParse(t, "chart c { leaf a; }", api.Chart{Name: "c", States: []api.State{{Name: "a", Kind: api.KdLeaf, Parent: -1}}})
	checkParse(t, charts.Door, charts.DoorChart())
	cut := strings.TrimSuffix(charts.Door, " }")
	checkFaultAt(t, cut+"@", api.ErrText)
	checkFaultAt(t, cut+" @", api.ErrText)
	twice := charts.DoorChart()
	twice.Events = []string{"go", "go"}
	checkParse(t, strings.Replace(charts.Door, "event go", "event go, go", 1), twice)
}

// Sy1, Sy2: charts with and without events and variables.
func TestHeads(t *testing.T) {
	a := []api.State{leaf("a", -1)}
	var1 := api.Var{Name: "x", Lo: 1, Hi: 2, Init: 1}
	for _, c := range []struct {
		s    string
		want api.Chart
	}{
		{"chart c{leaf a;}", api.Chart{Name: "c", States: a}},
		{"chart abcdefghijkl { leaf a; }", api.Chart{Name: "abcdefghijkl", States: a}},
		{"chart c { event go; leaf a; }", api.Chart{Name: "c", Events: []string{"go"}, States: a}},
		{"chart c { event go, come, go, c, a; leaf a; }", api.Chart{Name: "c", Events: []string{"go", "come", "go", "c", "a"}, States: a}},
		{"chart c { event abcdefghijkl,events,chart_;leaf a; }", api.Chart{Name: "c", Events: []string{"abcdefghijkl", "events", "chart_"}, States: a}},
		{"chart c { event h, g, f, e, d, c, b, a; leaf a; }", api.Chart{Name: "c", Events: strings.Fields("h g f e d c b a"), States: a}},
		{"chart c { var x 1 .. 2 = 1; leaf a; }", api.Chart{Name: "c", Vars: []api.Var{var1}, States: a}},
		{"chart c { var x 1..2=1;leaf a; }", api.Chart{Name: "c", Vars: []api.Var{var1}, States: a}},
		{"chart c { event x; var x 1 .. 2 = 1; leaf a; }", api.Chart{Name: "c", Events: []string{"x"}, Vars: []api.Var{var1}, States: a}},
		{"chart c { var x -5 .. -2 = -3; leaf a; }", api.Chart{Name: "c", Vars: []api.Var{{Name: "x", Lo: -5, Hi: -2, Init: -3}}, States: a}},
		{"chart c { var x - 5..- 2=- 3; leaf a; }", api.Chart{Name: "c", Vars: []api.Var{{Name: "x", Lo: -5, Hi: -2, Init: -3}}, States: a}},
		{"chart c { var x -5 .. 2 = 0; leaf a; }", api.Chart{Name: "c", Vars: []api.Var{{Name: "x", Lo: -5, Hi: 2}}, States: a}},
		{"chart c { var x 5 .. -2 = 7; leaf a; }", api.Chart{Name: "c", Vars: []api.Var{{Name: "x", Lo: 5, Hi: -2, Init: 7}}, States: a}},
		{"chart c { var x 0 .. -0 = -0; leaf a; }", api.Chart{Name: "c", Vars: []api.Var{{Name: "x"}}, States: a}},
		{"chart c { var x -1000 .. 1000 = 1000; var x 1000 .. -1000 = -1000; leaf a; }", api.Chart{Name: "c", Vars: []api.Var{{Name: "x", Lo: -1000, Hi: 1000, Init: 1000}, {Name: "x", Lo: 1000, Hi: -1000, Init: -1000}}, States: a}},
		{"chart c { event b; var abcdefghijkl 0 .. 1 = 2; var x 1 .. 2 = 1; var c 3 .. 4 = 5; var a 6 .. 7 = 8; leaf a; }", api.Chart{Name: "c", Events: []string{"b"}, Vars: []api.Var{{Name: "abcdefghijkl", Lo: 0, Hi: 1, Init: 2}, var1, {Name: "c", Lo: 3, Hi: 4, Init: 5}, {Name: "a", Lo: 6, Hi: 7, Init: 8}}, States: a}},
	} {
		checkParse(t, c.s, c.want)
	}
	// All numbers that may stand there, and the next ones.
	for n := -1010; n <= 1010; n++ {
		s := strconv.Itoa(n)
		if -1000 <= n && n <= 1000 {
			checkParse(t, "chart c { var x "+s+" .. 2 = 3; var y 4 .. "+s+" = 5; var z 6 .. 7 = "+s+"; leaf a; }", api.Chart{Name: "c", Vars: []api.Var{{Name: "x", Lo: n, Hi: 2, Init: 3}, {Name: "y", Lo: 4, Hi: n, Init: 5}, {Name: "z", Lo: 6, Hi: 7, Init: n}}, States: a})
			continue
		}
		s = strings.Replace("@"+s, "@-", "-@", 1)
		checkFaultAt(t, "chart c { var x "+s+" .. 2 = 3; leaf a; }", api.ErrRange)
		checkFaultAt(t, "chart c { var x 2 .. "+s+" = 3; leaf a; }", api.ErrRange)
		checkFaultAt(t, "chart c { var x 2 .. 3 = "+s+"; leaf a; }", api.ErrRange)
	}
}

// Sy1, Sy2: states by themselves and within others, and what stands behind inner ones.
func TestStates(t *testing.T) {
	for _, c := range []struct {
		s    string
		want []api.State
	}{
		{"leaf a;", []api.State{leaf("a", -1)}}, {"leaf a { }", []api.State{leaf("a", -1)}}, {"or a;", []api.State{or("a", -1)}}, {"or a {}", []api.State{or("a", -1)}}, {"and a ;", []api.State{and("a", -1)}}, {"and a{}", []api.State{and("a", -1)}},
		{"or a { leaf b; }", []api.State{or("a", -1), leaf("b", 0)}}, {"and a { leaf b; leaf c; }", []api.State{and("a", -1), leaf("b", 0), leaf("c", 0)}}, {"and a { or b; and c; }", []api.State{and("a", -1), or("b", 0), and("c", 0)}},
		{"or a { or b { or c { or d { } } } }", []api.State{or("a", -1), or("b", 0), or("c", 1), or("d", 2)}},
		{"or a { or b { leaf c; leaf d { } } leaf e; }", []api.State{or("a", -1), or("b", 0), leaf("c", 1), leaf("d", 1), leaf("e", 0)}},
		{"or a { and b { or c { leaf d; } or e { leaf f; } } leaf g; and h { } leaf i; }", []api.State{or("a", -1), and("b", 0), or("c", 1), leaf("d", 2), or("e", 1), leaf("f", 4), leaf("g", 0), and("h", 0), leaf("i", 0)}},
		{"and a { or b { leaf c; } or d { leaf e; or f { leaf g; } leaf h; } leaf i; }", []api.State{and("a", -1), or("b", 0), leaf("c", 1), or("d", 0), leaf("e", 3), or("f", 3), leaf("g", 5), leaf("h", 3), leaf("i", 0)}},
		// Names that stand twice, and such as begin with a keyword.
		{"or a { or a { leaf a; } leaf a; }", []api.State{or("a", -1), or("a", 0), leaf("a", 1), leaf("a", 0)}},
		{"or leafs { leaf orr; and on_ { leaf auto1; leaf enters; } leaf abcdefghijkl; }", []api.State{or("leafs", -1), leaf("orr", 0), and("on_", 0), leaf("auto1", 2), leaf("enters", 2), leaf("abcdefghijkl", 0)}},
		// What is told of one state, within others.
		{"leaf a { enter any x; exit x := 1; on b; }", []api.State{having(t, leaf("a", -1), "any x", "x := 1", "on b;")}},
		{"or a { enter any x; leaf b { enter any y; } }", []api.State{having(t, or("a", -1), "any x", "", ""), having(t, leaf("b", 0), "any y", "", "")}},
		{"or a { exit any x; leaf b { exit any y; } }", []api.State{having(t, or("a", -1), "", "any x", ""), having(t, leaf("b", 0), "", "any y", "")}},
		{"or a { on x -> b; or b { on y -> a; auto; leaf c { on z; } } and d { auto -> x; } }", []api.State{having(t, or("a", -1), "", "", "on x -> b;"), having(t, or("b", 0), "", "", "on y -> a; auto;"), having(t, leaf("c", 1), "", "", "on z;"), having(t, and("d", 0), "", "", "auto -> x;")}},
		{"or a { enter x := 1, any y; exit x := x or y; on b [in(a)] / x := 1 -> nobody; auto [x and y]; or c { exit any z; } and d; }", []api.State{having(t, or("a", -1), "x := 1, any y", "x := x or y", "on b [in(a)] / x := 1 -> nobody; auto [x and y];"), having(t, or("c", 0), "", "any z", ""), and("d", 0)}},
	} {
		checkParse(t, "chart c { "+c.s+" }", api.Chart{Name: "c", States: c.want})
		checkParse(t, "chart c { event e; var v 1 .. 2 = 1; "+c.s+" }", api.Chart{Name: "c", Events: []string{"e"}, Vars: []api.Var{{Name: "v", Lo: 1, Hi: 2, Init: 1}}, States: c.want})
		if e := shape.Check(c.want); e != api.OK {
			t.Errorf("the test's own states %v may not stand so", c.want)
		}
	}
}

// Sy1, Sy2: all combinations of what may stand within a state.
func TestCombinations(t *testing.T) {
	all := charts.Combinations(t)
	for _, c := range all {
		for _, style := range charts.Styles() {
			s := charts.Written(c, style)
			checkParse(t, s, c)
			// What stands behind the chart is left.
			l := reading.Tokens(t, s+" }")
			checkRead(t, l, c, l[len(l)-2])
		}
	}
	if len(all) != 2*27*(1+2*len(charts.Belows())) {
		t.Errorf("%d charts", len(all))
	}
}

// Sy1, Sy2: all small lists of states that may stand so, of all kinds.
func TestShapes(t *testing.T) {
	asked := 0
	for many := 1; many <= 6; many++ {
		for _, parents := range charts.Shapes(many) {
			for kinds := range 1 << (2 * many) {
				states := make([]api.State, many)
				for at, parent := range parents {
					states[at] = api.State{Name: "s" + strconv.Itoa(at), Kind: kinds >> (2 * at) & 3, Parent: parent}
				}
				if shape.Check(states) != api.OK {
					continue
				}
				c := api.Chart{Name: "c", States: states}
				if got, at, e := syntax.Parse(charts.Written(c, charts.Style{Braces: kinds%3 == 0})); !same(got, c) || at != (api.Pos{}) || e != api.OK {
					t.Errorf("Parse of %v: %v, %v, error %d", states, got, at, e)
				}
				asked++
			}
		}
	}
	if asked < 10000 {
		t.Errorf("just %d lists of states", asked)
	}
}

// nested is the text of states that stand so deep each, one behind the other, the first one by 1; each has braces.
func nested(depths []int) string {
	s, open := "", 0
	for at, deep := range depths {
		s += strings.Repeat("} ", max(open-deep+1, 0)) + "or s" + strconv.Itoa(at) + " { "
		open = deep
	}
	return "chart c { " + s + strings.Repeat("} ", open) + "}"
}

// Sy1, Sy2: states of each number up to MaxStates, in some orders each, and one more, how deep it ever is.
func TestManyStates(t *testing.T) {
	for many := 1; many <= 60; many++ {
		for seed := range 6 {
			depths := charts.Depths(many, 1000*many+seed)
			c := api.Chart{Name: "c", States: charts.Nested(depths)}
			checkParse(t, nested(depths), c)
			if e := shape.Check(c.States); e != api.OK {
				t.Errorf("the test's own states of %v may not stand so", depths)
			}
			for deep := 2; deep <= depths[many-1]+1; deep++ {
				s := nested(append(slices.Clone(depths), deep))
				name := "or s" + strconv.Itoa(many) + " "
				switch {
				case many == 60:
					checkFaultAt(t, strings.Replace(s, name, "@"+name, 1), api.ErrFull)
				case deep == 13:
					checkFaultAt(t, strings.Replace(s, name, "@"+name, 1), api.ErrDeep)
				default:
					checkParse(t, s, api.Chart{Name: "c", States: charts.Nested(append(slices.Clone(depths), deep))})
				}
			}
		}
	}
}

// Sy1: texts that are no charts: the fault stands at the @.
func TestFaults(t *testing.T) {
	for _, s := range []string{
		// The chart's own words.
		"@", "@;", "@c { leaf a; }", "@leaf a;", "@{ leaf a; }", "@event chart c { leaf a; }", "@charts c { leaf a; }", "@1", "@}", "\n # chart\n @",
		"chart@", "chart @{ leaf a; }", "chart @1 { leaf a; }", "chart @leaf a;", "chart\n@", "chart @chart c { leaf a; }", "chart @; { leaf a; }",
		"chart c@", "chart c @leaf a; }", "chart c@; leaf a; }", "chart c @c { leaf a; }", "chart c @( leaf a; )", "chart c @[ leaf a; }", "chart c@, d { leaf a; }", "chart c @event go { leaf a; }", "chart c @} leaf a; }",
		// Events.
		"chart c { event@", "chart c { event@; leaf a; }", "chart c { event @leaf a; }", "chart c { event @1; leaf a; }", "chart c { event@, go; leaf a; }", "chart c { event @event go; leaf a; }", "chart c { event @var x 1 .. 2 = 1; leaf a; }", "chart c { event @}", "chart c { @events go; leaf a; }", "chart c { @go; leaf a; }",
		"chart c { event go@", "chart c { event go @leaf a; }", "chart c { event go @come; leaf a; }", "chart c { event go @}", "chart c { event go @= 1; leaf a; }", "chart c { event go @event come; leaf a; }", "chart c { event go @var x 1 .. 2 = 1; leaf a; }", "chart c { event go @1; leaf a; }",
		"chart c { event go,@", "chart c { event go,@; leaf a; }", "chart c { event go,@, come; leaf a; }", "chart c { event go, @leaf a; }", "chart c { event go, @1; leaf a; }", "chart c { event go, @or; leaf a; }", "chart c { event go, come@", "chart c { event go, come @leaf a; }", "chart c { event go, come,@, leave; leaf a; }",
		"chart c { event go;@", "chart c { event go;@; leaf a; }", "chart c { event go; @}", "chart c { event go; @event come; leaf a; }", "chart c { event go; @come; leaf a; }", "chart c { event go;@, come; leaf a; }", "chart c { event go; var x 1 .. 2 = 1; @event come; leaf a; }", "chart c { var x 1 .. 2 = 1; @event go; leaf a; }", "chart c { leaf a; @event go; }", "chart c { or a { @event go; leaf b; } }",
		// Variables.
		"chart c { var@", "chart c { var@; leaf a; }", "chart c { var @1 .. 2 = 1; leaf a; }", "chart c { var @var x 1 .. 2 = 1; leaf a; }", "chart c { var @or 1 .. 2 = 1; leaf a; }", "chart c { var@, x 1 .. 2 = 1; leaf a; }", "chart c { var @- 1 .. 2 = 1; leaf a; }",
		"chart c { var x@", "chart c { var x@; leaf a; }", "chart c { var x @.. 2 = 1; leaf a; }", "chart c { var x @y .. 2 = 1; leaf a; }", "chart c { var x @= 1; leaf a; }", "chart c { var x @( 1 ) .. 2 = 1; leaf a; }", "chart c { var x @+ 1 .. 2 = 1; leaf a; }", "chart c { var x @:= 1; leaf a; }", "chart c { var x@, y 1 .. 2 = 1; leaf a; }", "chart c { var x @01 .. 2 = 1; leaf a; }", "chart c { var x @leaf a; }",
		"chart c { var x -@", "chart c { var x -@; leaf a; }", "chart c { var x - @- 1 .. 2 = 1; leaf a; }", "chart c { var x - @.. 2 = 1; leaf a; }", "chart c { var x - @y .. 2 = 1; leaf a; }", "chart c { var x - @01 .. 2 = 1; leaf a; }", "chart c { var x - @( 1 ) .. 2 = 1; leaf a; }", "chart c { var x @-> 1 .. 2 = 1; leaf a; }",
		"chart c { var x 1@", "chart c { var x 1@; leaf a; }", "chart c { var x 1 @2 = 1; leaf a; }", "chart c { var x 1@, 2 = 1; leaf a; }", "chart c { var x 1 @- 2 = 1; leaf a; }", "chart c { var x 1 @= 1; leaf a; }", "chart c { var x 1 @+ 1 .. 2 = 1; leaf a; }", "chart c { var x 1 @to 2 = 1; leaf a; }",
		"chart c { var x 1 ..@", "chart c { var x 1 ..@; leaf a; }", "chart c { var x 1 .. @= 1; leaf a; }", "chart c { var x 1 .. @y = 1; leaf a; }", "chart c { var x 1 .. @.. 2 = 1; leaf a; }", "chart c { var x 1 .. -@", "chart c { var x 1 .. - @= 1; leaf a; }", "chart c { var x 1 .. - @- 2 = 1; leaf a; }", "chart c { var x 1 .. @00 = 1; leaf a; }",
		"chart c { var x 1 .. 2@", "chart c { var x 1 .. 2@; leaf a; }", "chart c { var x 1 .. 2 @1; leaf a; }", "chart c { var x 1 .. 2 @:= 1; leaf a; }", "chart c { var x 1 .. 2 @== 1; leaf a; }", "chart c { var x 1 .. 2 @.. 3 = 1; leaf a; }", "chart c { var x 1 .. 2 @* 3 = 1; leaf a; }", "chart c { var x 1 .. 2 @leaf a; }",
		"chart c { var x 1 .. 2 =@", "chart c { var x 1 .. 2 =@; leaf a; }", "chart c { var x 1 .. 2 = @y; leaf a; }", "chart c { var x 1 .. 2 = @= 1; leaf a; }", "chart c { var x 1 .. 2 = @true; leaf a; }", "chart c { var x 1 .. 2 = -@", "chart c { var x 1 .. 2 = -@; leaf a; }", "chart c { var x 1 .. 2 = - @- 1; leaf a; }", "chart c { var x 1 .. 2 = @(1); leaf a; }",
		"chart c { var x 1 .. 2 = 1@", "chart c { var x 1 .. 2 = 1 @leaf a; }", "chart c { var x 1 .. 2 = 1 @var y 1 .. 2 = 1; leaf a; }", "chart c { var x 1 .. 2 = 1@, y 1 .. 2 = 1; leaf a; }", "chart c { var x 1 .. 2 = 1 @+ 1; leaf a; }", "chart c { var x 1 .. 2 = 1 @}", "chart c { var x 1 .. 2 = 1 @1; leaf a; }", "chart c { var x 1 .. 2 = 1;@", "chart c { var x 1 .. 2 = 1;@; leaf a; }", "chart c { var x 1 .. 2 = 1; @}", "chart c { var x 1 .. 2 = 1; @y 1 .. 2 = 1; leaf a; }",
		"chart c { leaf a; @var x 1 .. 2 = 1; }", "chart c { or a { @var x 1 .. 2 = 1; leaf b; } }",
		// No state, and a second one.
		"chart c {@", "chart c { @}", "chart c {@; leaf a; }", "chart c { @{ leaf a; } }", "chart c { @on a; leaf a; }", "chart c { @auto; leaf a; }", "chart c { @enter any x; leaf a; }", "chart c { @exit any x; leaf a; }", "chart c { @a; }", "chart c { @leafs a; }", "chart c { @not a; }", "chart c { @chart c { leaf a; } }", "chart c { event go; var x 1 .. 2 = 1; @}", "chart c { @1; }",
		"chart c { leaf a; @leaf b; }", "chart c { or a; @or b; }", "chart c { leaf a { } @and b { } }", "chart c { or a { leaf b; } @leaf c; }", "chart c { leaf a; @on b; }", "chart c { leaf a;@; }", "chart c { leaf a { }@; }",
		"chart c { leaf a;@", "chart c { leaf a { }@", "chart c { leaf a;\n@) }", "chart c { leaf a; @{ } }", "chart c { or a { leaf b; }@", "chart c { leaf a; @a }", "chart c { leaf a;@] }",
		// A state's own words.
		"chart c { leaf@", "chart c { leaf@; }", "chart c { leaf @{ } }", "chart c { leaf @or; }", "chart c { leaf @leaf a; }", "chart c { or @1; }", "chart c { and @and; }", "chart c { or @or a; }", "chart c { and @}", "chart c { leaf @auto; }",
		"chart c { leaf a@", "chart c { leaf a @}", "chart c { leaf a @b; }", "chart c { leaf a@, b; }", "chart c { or a @leaf b; }", "chart c { or a @( leaf b; ) }", "chart c { leaf a @on b; }", "chart c { leaf a @[ x ]; }", "chart c { leaf a @-> b; }", "chart c { and a @and b; }", "chart c { leaf a @1; }",
		"chart c { leaf a {@", "chart c { leaf a {@; } }", "chart c { leaf a { @{ } } }", "chart c { leaf a { @x := 1; } }", "chart c { leaf a { @any x; } }", "chart c { leaf a { @-> b; } }", "chart c { leaf a { @[ x ]; } }", "chart c { leaf a { @b; } }", "chart c { leaf a { @1 } }", "chart c { leaf a { @) }", "chart c { or a {@", "chart c { or a { @chart c { leaf b; } } }", "chart c { or a { @a; } }", "chart c { or a {@; leaf b; } }", "chart c { leaf a { @not b; } }",
		// What is done as it is entered and left.
		"chart c { leaf a { enter@", "chart c { leaf a { enter@; } }", "chart c { leaf a { enter @exit any x; } }", "chart c { leaf a { enter @1; } }", "chart c { leaf a { enter @}", "chart c { leaf a { enter @or := 1; } }", "chart c { leaf a { enter @-> b; } }", "chart c { leaf a { enter @/ any x; } }", "chart c { leaf a { enter x@; } }", "chart c { leaf a { enter x @= 1; } }", "chart c { leaf a { enter x :=@; } }", "chart c { leaf a { enter any@; } }", "chart c { leaf a { enter any x,@; } }", "chart c { leaf a { enter x := 1 +@; } }", "chart c { leaf a { enter x := (1@; } }",
		"chart c { leaf a { enter any x@", "chart c { leaf a { enter any x @} }", "chart c { leaf a { enter any x @exit any x; } }", "chart c { leaf a { enter any x @any y; } }", "chart c { leaf a { enter any x @-> b; } }", "chart c { leaf a { enter x := 1 @2; } }", "chart c { leaf a { enter any x @on b; } }", "chart c { or a { enter any x @leaf b; } }", "chart c { or a { enter x := 1 or @leaf; leaf b; } }",
		"chart c { leaf a { enter any x;@", "chart c { leaf a { enter any x;@; } }", "chart c { leaf a { enter any x; @any y; } }", "chart c { leaf a { enter any x; @enter any y; } }", "chart c { or a { enter any x; @b; } }",
		"chart c { leaf a { exit@", "chart c { leaf a { exit@; } }", "chart c { leaf a { exit @enter any x; } }", "chart c { leaf a { exit @1; } }", "chart c { leaf a { exit @}", "chart c { leaf a { exit x :=@; } }", "chart c { leaf a { exit any @or; } }", "chart c { leaf a { exit any x, @exit any y; } }",
		"chart c { leaf a { exit any x@", "chart c { leaf a { exit any x @} }", "chart c { leaf a { exit any x @on b; } }", "chart c { leaf a { exit x := y @:= 1; } }", "chart c { or a { exit x := 1 @leaf b; } }", "chart c { leaf a { exit any x; @exit any y; } }", "chart c { leaf a { exit any x; @enter any y; } }", "chart c { leaf a { enter any x; exit any y; @enter any z; } }", "chart c { leaf a { enter any x; exit any y; @exit any z; } }",
		// Transitions.
		"chart c { leaf a { on@", "chart c { leaf a { on@; } }", "chart c { leaf a { on @1; } }", "chart c { leaf a { on @auto; } }", "chart c { leaf a { on b@", "chart c { leaf a { on b @} }", "chart c { leaf a { on b @on c; } }", "chart c { leaf a { on b [@]; } }", "chart c { leaf a { on b [x@; } }", "chart c { leaf a { on b [x] /@; } }", "chart c { leaf a { on b ->@; } }", "chart c { leaf a { on b -> @leaf; } }", "chart c { leaf a { auto@", "chart c { leaf a { auto @b; } }", "chart c { leaf a { auto @} }", "chart c { or a { auto @leaf b; } }", "chart c { leaf a { on b;@; } }", "chart c { leaf a { on b; @b; } }", "chart c { leaf a { on b; @", "chart c { leaf a { auto; @[x]; } }",
		"chart c { leaf a { on b; @enter any x; } }", "chart c { leaf a { auto; @exit any x; } }", "chart c { leaf a { enter any x; on b; @exit any x; } }", "chart c { leaf a { auto; on b; @enter any x; } }",
		// What stands behind the states within.
		"chart c { or a { leaf b; @on c; } }", "chart c { or a { leaf b; @auto; } }", "chart c { or a { leaf b; @enter any x; } }", "chart c { or a { leaf b; @exit any x; } }", "chart c { and a { or b { leaf c; @on d; } } }", "chart c { or a { leaf b { } @on c; } }", "chart c { or a { or b { on c; } @on d; } }", "chart c { or a { leaf b;@; } }", "chart c { or a { leaf b; @b } }", "chart c { or a { leaf b;@", "chart c { or a { or b { leaf c; }@", "chart c { or a { leaf b; @{ } } }", "chart c { or a { leaf b;@] }", "chart c { or a { leaf b; @event go; } }",
		// Within a leaf stands no state.
		"chart c { leaf a { @leaf b; } }", "chart c { leaf a { @or b; } }", "chart c { leaf a { @and b { leaf c; } } }", "chart c { leaf a { on b; @leaf c; } }", "chart c { leaf a { enter any x; @or b; } }", "chart c { leaf a { exit any x; @and b; } }", "chart c { or a { leaf b { @leaf c; } } }", "chart c { or a { leaf b { auto; @or c; } } }", "chart c { and a { or b { leaf c { @and d; } } leaf e; } }",
		// The first one of several.
		"@or or { or or }", "chart @or { event or; or or }", "chart c { event @or; var or; or or }", "chart c { event go; var @or; or or }", "chart c { var x 1 .. 2 = 1; or @or { or or", "chart c { or a { enter @or; exit or; on or; or or", "chart c { or a { exit @or; on or; or or", "chart c { or a { on @or; or or", "chart c { or a { or @or", "chart c { leaf a; @leaf leaf; } }", "chart c { var x @.. 1001 = 1001; }", "chart c { event a, b, c, d, e, f, g, @or, h, i; }",
	} {
		checkFaultAt(t, s, api.ErrText)
	}
}

// Sy1: a number above MaxAbs; what Number tells counts, also behind a minus.
func TestRange(t *testing.T) {
	for _, s := range []string{"@1001", "@1000001", "@999999999", "-@1001", "- @1000001", "-\n@999999999"} {
		checkFaultAt(t, "chart c { var x "+s+" .. 1 = 1; leaf a; }", api.ErrRange)
		checkFaultAt(t, "chart c { var x 1 .. "+s+" = 1; leaf a; }", api.ErrRange)
		checkFaultAt(t, "chart c { var x 1 .. 2 = "+s+"; leaf a; }", api.ErrRange)
		checkFaultAt(t, "chart c { var y 1 .. 2 = 1; var x "+s+" 1001 or", api.ErrRange)
		checkFaultAt(t, "chart c { event a; var x 1 .. "+s+" or", api.ErrRange)
	}
	// In expressions numbers go up to Big.
	checkParse(t, "chart c { leaf a { enter x := 1001; exit x := 1000000; auto [x < -1001]; } }", api.Chart{Name: "c", States: []api.State{having(t, leaf("a", -1), "x := 1001", "x := 1000000", "auto [x < -1001];")}})
	for _, s := range []string{"enter x := @1000001;", "exit x := @1000001;", "auto [@1000001];", "on b / x := 1, y := -@1000001;", "enter any x; exit any y; auto / x := @999999999"} {
		checkFaultAt(t, "chart c { or a { leaf b { "+s+" } } }", api.ErrRange)
	}
}

// Sy1: a keyword stands where a name must be; a name as long as may be is one.
func TestKeywords(t *testing.T) {
	for _, word := range strings.Fields(keywords) {
		for _, s := range []string{"chart @W { leaf a; }", "chart c { event @W; leaf a; }", "chart c { event a, @W; leaf a; }", "chart c { event a, b, c, d, e, f, g, h, @W; leaf a; }", "chart c { var @W 1 .. 2 = 1; leaf a; }", "chart c { leaf @W; }", "chart c { or @W { leaf a; } }", "chart c { and a { leaf @W; } }", "chart c { leaf a { on @W; } }", "chart c { leaf a { auto -> @W; } }", "chart c { leaf a { enter any @W; } }", "chart c { leaf a { exit any @W; } }"} {
			checkFaultAt(t, strings.Replace(s, "W", word, 1), api.ErrText)
		}
		if word != "chart" {
			checkFaultAt(t, "@"+word+" c { leaf a; }", api.ErrText)
		}
		if !slices.Contains(strings.Fields("event var leaf or and"), word) {
			checkFaultAt(t, "chart c { @"+word+" a; }", api.ErrText)
		}
		if !slices.Contains(strings.Fields("enter exit on auto"), word) {
			checkFaultAt(t, "chart c { leaf a { @"+word+" b; } }", api.ErrText)
		}
		checkFaultAt(t, "chart c { leaf a; @"+word+" b; }", api.ErrText)
	}
	// Tokens that layer 3 does not tell: names that are none.
	for _, name := range []string{"", "abcdefghijklm", "A", "1a", "_a", "a b", "a-b", "\xff"} {
		for _, s := range []string{"chart W { leaf a ; }", "chart c { event W ; leaf a ; }", "chart c { event a , W ; leaf a ; }", "chart c { event a , b , c , d , e , f , g , h , W ; leaf a ; }", "chart c { var W 1 .. 2 = 1 ; leaf a ; }", "chart c { leaf W ; }", "chart c { or a { and W ; } }"} {
			l := reading.Placed(reading.Words(s))
			at := slices.IndexFunc(l, func(one api.Token) bool { return one.Text == "W" })
			l[at].Kind, l[at].Text = api.TokName, name
			checkFault(t, l, l[at].At, api.ErrText)
		}
	}
}

// Sy1: as many as may be of each, and one more.
func TestLimits(t *testing.T) {
	head := func(events, vars, more string) string {
		return "chart c { " + events + vars + "leaf a { " + more + "} }"
	}
	eight := "event a, b, c, d, e, f, g, h"
	checkParse(t, head(eight+"; ", "", ""), api.Chart{Name: "c", Events: strings.Fields("a b c d e f g h"), States: []api.State{leaf("a", -1)}})
	for _, s := range []string{eight + ", @i; ", eight + ", @a; ", eight + ", @i, j; ", eight + ", @i ", eight + ", @i or; ", eight + ", @abcdefghijkl; ", eight + ",\n@i, or; "} {
		checkFaultAt(t, head(s, "", ""), api.ErrFull)
	}
	for _, s := range []string{eight + ", @or; ", eight + ",@; ", eight + ", @1, j; ", eight + ",@, i; ", eight + " @i; ", eight + ", @event i; ", eight + "; @event i; ", eight + ", @leaf "} {
		checkFaultAt(t, head(s, "", ""), api.ErrText)
	}
	one := "var x 1 .. 2 = 1; "
	four := strings.Repeat(one, 4)
	for many := range 5 {
		checkParse(t, head(eight+"; ", strings.Repeat(one, many), ""), api.Chart{Name: "c", Events: strings.Fields("a b c d e f g h"), Vars: slices.Repeat([]api.Var{{Name: "x", Lo: 1, Hi: 2, Init: 1}}, many), States: []api.State{leaf("a", -1)}})
	}
	for _, s := range []string{four + "@" + one, four + "@" + one + one, four + "@var ", four + "@var or ", four + "@var x 1001 ", four + "@var; "} {
		checkFaultAt(t, head("", s, ""), api.ErrFull)
		checkFaultAt(t, head(eight+"; ", s, ""), api.ErrFull)
	}
	checkFaultAt(t, head("", four+"@x 1 .. 2 = 1; ", ""), api.ErrText)
	checkFaultAt(t, head("", four+"@event a; ", ""), api.ErrText)
	checkFaultAt(t, head("", strings.Repeat(one, 3)+"var x 1 .. 2 = 1 @var x 1 .. 2 = 1; ", ""), api.ErrText)
	checkFaultAt(t, head("", strings.Repeat(one, 3)+"var x @y .. 2 = 1; "+one, ""), api.ErrText)
}

// Sy1: as many transitions of one state as may be, and one more.
func TestManyTrans(t *testing.T) {
	for many := 1; many <= 16; many++ {
		own := strings.Repeat("on a; auto -> b; ", many/2) + strings.Repeat("on a [x] / any x -> b; ", many%2)
		full := having(t, or("a", -1), "any x", "any y", own)
		within := having(t, leaf("b", 0), "", "any z", own)
		checkParse(t, "chart c { or a { enter any x; exit any y; "+own+"leaf b { exit any z; "+own+"} } }", api.Chart{Name: "c", States: []api.State{full, within}})
	}
	sixteen := strings.Repeat("on a; auto -> b; ", 8)
	for _, s := range []string{"@on a; ", "@auto; ", "@on a; on a; ", "@on ", "@auto ", "@on or ", "@auto [1000001]; ", "@on; ", "\n@auto a; "} {
		checkFaultAt(t, "chart c { leaf a { "+sixteen+s+"} }", api.ErrFull)
		checkFaultAt(t, "chart c { or a { enter any x; "+sixteen+s+"leaf b; } }", api.ErrFull)
		checkFaultAt(t, "chart c { or a { "+sixteen+"leaf b { "+sixteen+s+"} } }", api.ErrFull)
		checkFaultAt(t, "chart c { and a { leaf b { "+sixteen+"} leaf d { exit any x; "+sixteen+s+"} } }", api.ErrFull)
	}
	for _, s := range []string{"@a; ", "@; ", "@[x]; ", "@enter any x; ", "@exit any x; ", "@-> b; ", "@", "@any x; "} {
		checkFaultAt(t, "chart c { leaf a { "+sixteen+s+behind(s), api.ErrText)
	}
	checkFaultAt(t, "chart c { or a { "+sixteen+"leaf b; @on a; } }", api.ErrText)
	checkFaultAt(t, "chart c { leaf a { "+strings.Repeat("auto; ", 15)+"auto @auto; } }", api.ErrText)
}

// behind is what closes a chart behind a state that is open; behind nothing that is told there is nothing, for there an end is the fault.
func behind(s string) string {
	if s == "@" {
		return ""
	}
	return "} }"
}

// Sy1: states as many, and as deep, as may be, and one more; where one is too many and too deep, it is too many.
func TestManyAndDeep(t *testing.T) {
	open, shut := strings.Repeat("or s { ", 11), strings.Repeat("} ", 11)
	leaves := func(many int) string { return strings.Repeat("leaf s; ", many) }
	kinds := []string{"leaf s; ", "or s; ", "and s; ", "leaf s { } ", "or s { } ", "and s { on a; } "}
	for _, kind := range kinds {
		var states []api.State
		for at := range 11 {
			states = append(states, or("s", at-1))
		}
		last := api.State{Name: "s", Kind: 1 + slices.Index([]string{"leaf", "or", "and"}, strings.Fields(kind)[0]), Parent: 10}
		if strings.Contains(kind, "on a") {
			last.Trans = []api.Trans{{Event: "a"}}
		}
		checkParse(t, "chart c { "+open+kind+shut+"}", api.Chart{Name: "c", States: append(slices.Clone(states), last)})
		checkParse(t, "chart c { "+open+kind+leaves(1)+kind+shut+"}", api.Chart{Name: "c", States: append(slices.Clone(states), last, leaf("s", 10), last)})
		// One deeper than may be.
		for _, around := range []string{"or s { ", "and s { ", "or s { enter any x; exit any x; auto; "} {
			checkFaultAt(t, "chart c { "+open+around+"@"+kind+"} "+shut+"}", api.ErrDeep)
			checkFaultAt(t, "chart c { "+open+leaves(47)+around+"@"+kind+"} "+shut+"}", api.ErrDeep)
			checkFaultAt(t, "chart c { "+open+leaves(48)+around+"@"+kind+"} "+shut+"}", api.ErrFull)
			checkFaultAt(t, "chart c { "+open+leaves(48)+around+"} @"+kind+shut+"}", api.ErrFull)
			checkFaultAt(t, "chart c { "+open+leaves(49)+"@"+around+kind+"} "+shut+"}", api.ErrFull)
		}
		// One more than may be, beside others, and further out.
		checkFaultAt(t, "chart c { or s { "+leaves(59)+"@"+kind+"} }", api.ErrFull)
		checkFaultAt(t, "chart c { "+open+leaves(49)+"@"+kind+shut+"}", api.ErrFull)
		checkFaultAt(t, "chart c { "+open+leaves(49)+"} "+"@"+kind+shut[2:]+"}", api.ErrFull)
		checkFaultAt(t, "chart c { and s { or s { "+leaves(58)+"} @"+kind+"} }", api.ErrFull)
	}
	for _, word := range []string{"leaf", "or", "and"} {
		for _, behind := range []string{"", " ", " or", " 1", "; ", " {", " s"} {
			checkFaultAt(t, "chart c { or s { "+leaves(59)+"@"+word+behind, api.ErrFull)
			checkFaultAt(t, "chart c { "+open+"or s { @"+word+behind, api.ErrDeep)
		}
		// Where no state may stand it is none that is too many, or too deep.
		checkFaultAt(t, "chart c { or s { "+leaves(58)+"leaf s { @"+word+" s; } } }", api.ErrText)
		checkFaultAt(t, "chart c { "+open+"leaf s { @"+word+" s; } "+shut+"}", api.ErrText)
		checkFaultAt(t, "chart c { or s { "+leaves(59)+"} @"+word+" s; }", api.ErrText)
		checkFaultAt(t, "chart c { "+open+"leaf s; "+leaves(48)+shut+"@"+word+" s; }", api.ErrText)
		checkFaultAt(t, "chart c { or s { "+leaves(59)+"@on a; "+word+" s; } }", api.ErrText)
		checkFaultAt(t, "chart c { or s { "+leaves(59)+"@; "+word+" s; } }", api.ErrText)
	}
	// 60 states, and something else behind them.
	for _, behind := range []string{"@s; } }", "@; } }", "@on a; } }", "@enter any x; } }", "@", "} @", "} @; }", "} @{ }"} {
		checkFaultAt(t, "chart c { or s { "+leaves(59)+behind, api.ErrText)
	}
	checkParse(t, "chart c { or s { "+leaves(59)+"} }", api.Chart{Name: "c", States: append([]api.State{or("s", -1)}, slices.Repeat([]api.State{leaf("s", 0)}, 59)...)})
}

// Sy1: what the layers below tell: too much, and too deep.
func TestBelow(t *testing.T) {
	deep, full := strings.Repeat("-", 12)+"x", strings.Repeat("-", 40)+"x"
	eight := strings.Repeat("any x, ", 7) + "any x"
	for _, c := range []struct {
		s string
		e api.Errno
	}{
		{"enter " + eight + ", @any x;", api.ErrFull}, {"exit " + eight + ", @x := 1;", api.ErrFull}, {"auto / " + eight + ", @any x;", api.ErrFull}, {"enter " + eight + ",@;", api.ErrFull}, {"enter any x; exit " + eight + ", @or;", api.ErrFull}, {"on a [x] / " + eight + ", @any x -> b;", api.ErrFull},
		{"enter x := " + full + "@;", api.ErrFull}, {"exit any y, x := " + full + "@, any z;", api.ErrFull}, {"auto [" + full + "@];", api.ErrFull}, {"on a [x] / x := " + full + " @-> b;", api.ErrFull},
		{"enter x := " + deep + "@;", api.ErrDeep}, {"exit any y, x := " + deep + "@, any z;", api.ErrDeep}, {"auto [" + deep + "@];", api.ErrDeep}, {"on a [x] / x := " + deep + " @-> b;", api.ErrDeep}, {"enter x := " + deep + "@)", api.ErrDeep}, {"exit x := " + deep + " @}", api.ErrDeep},
		// The first one of several.
		{"enter x := " + deep + "@; exit x := " + full + "; on or", api.ErrDeep}, {"enter any x; exit x := " + full + "@; auto [" + deep + "]; leaf or", api.ErrFull}, {"auto [" + deep + "@] / " + eight + ", any x; enter any x;", api.ErrDeep}, {"enter @or; exit x := " + deep + ";", api.ErrText},
	} {
		for _, around := range []string{"chart c { leaf a { ", "chart c { event a; var x 1 .. 2 = 1; or a { leaf b { } and d { ", "chart c { and a { enter any x; on a; or b { "} {
			checkFaultAt(t, around+c.s+" leaf d; } } } }", c.e)
		}
	}
	most := having(t, leaf("a", -1), eight, "x := "+deep[1:], "auto ["+full[29:]+"] / "+eight+";")
	checkParse(t, "chart c { leaf a { enter "+eight+"; exit x := "+deep[1:]+"; auto ["+full[29:]+"] / "+eight+"; } }", api.Chart{Name: "c", States: []api.State{most}})
}

// Sy2: layer 3's error comes first, wherever it stands, and beside it its place.
func TestScanFaults(t *testing.T) {
	for _, c := range []struct {
		s string
		e api.Errno
	}{
		{"@$", api.ErrText}, {"chart c { leaf a; } @$", api.ErrText}, {"chart c { leaf a; }\n\n  @!", api.ErrText}, {"chart @C { leaf a; }", api.ErrText}, {"or or or @.", api.ErrText}, {"chart c { var x @1x .. 2 = 1; leaf a; }", api.ErrText}, {"} } leaf leaf @\"a\"", api.ErrText}, {"chart c { leaf a@: }", api.ErrText}, {"chart @\xff", api.ErrText}, {"@_", api.ErrText},
		{"chart @abcdefghijklm { leaf a; }", api.ErrLong}, {"chart c { event @abcdefghijklm; leaf a; }", api.ErrLong}, {"chart c { leaf @abcdefghijklm; }", api.ErrLong}, {"or 1 } @abcdefghijklm $", api.ErrLong}, {"chart c { var x @1000000000 .. 2 = 1; leaf a; }", api.ErrLong}, {"chart c { leaf a; } # $\n @1234567890", api.ErrLong}, {"chart c { var x 1001 .. @1000000000 = 1; }", api.ErrLong},
	} {
		text, at := reading.Marked(t, c.s)
		checkNone(t, text, at, c.e)
	}
	// As long as may be, and longer.
	long := "chart c { leaf a; } #" + strings.Repeat("x", 1<<16-21)
	want := api.Chart{Name: "c", States: []api.State{leaf("a", -1)}}
	checkParse(t, long, want)
	checkNone(t, long+"x", api.Pos{Line: 1, Col: 1}, api.ErrLong)
	checkNone(t, strings.Repeat("$", 1<<16+1), api.Pos{Line: 1, Col: 1}, api.ErrLong)
	checkNone(t, strings.Repeat(" ", 1<<16), api.Pos{Line: 1, Col: 1<<16 + 1}, api.ErrText)
	checkNone(t, strings.Repeat(" ", 1<<16+1), api.Pos{Line: 1, Col: 1}, api.ErrLong)
	// As many tokens as may be, and more: where they stand in a chart, and behind what is none.
	ahead, behind := "chart c { leaf a { on b [x", "]; } }"
	brackets := (4000 - len(reading.Tokens(t, ahead+behind)) + 1) / 2
	most := strings.Replace(ahead, "x", strings.Repeat("(", brackets)+"x", 1) + strings.Repeat(")", brackets) + behind
	if many := len(reading.Tokens(t, most)) - 1; many != 4000 {
		t.Fatalf("the test's own text has %d tokens", many)
	}
	checkParse(t, most, api.Chart{Name: "c", States: []api.State{having(t, leaf("a", -1), "", "", "on b [x];")}})
	checkNone(t, most+" ;", api.Pos{Line: 1, Col: len(most) + 2}, api.ErrFull)
	checkNone(t, most+"\n$", api.Pos{Line: 2, Col: 1}, api.ErrText)
	checkNone(t, strings.Repeat(";", 4001), api.Pos{Line: 1, Col: 4001}, api.ErrFull)
	checkNone(t, strings.Repeat(";", 4000), api.Pos{Line: 1, Col: 1}, api.ErrText)
}

// Sy2: what stands behind the chart is ErrText at it; Read leaves it.
func TestWhatStandsBehind(t *testing.T) {
	for _, s := range []string{"chart c { leaf a; }", charts.Door} {
		want, _, _ := syntax.Parse(s)
		for _, behind := range []string{"@;", " @}", "\n@}", " @x", " @leaf a;", " @on b;", " @event go;", " @chart c { leaf a; }", "@1", "@{ }", " # }\n\n @;", "@,", "@1001", " @enter any x;"} {
			text, at := reading.Marked(t, s+behind)
			checkNone(t, text, at, api.ErrText)
			l := reading.Tokens(t, text)
			checkRead(t, l, want, l[slices.IndexFunc(l, func(one api.Token) bool { return one.At == at })])
		}
		for _, behind := range []string{"", " ", "\n", "# }", "\n# chart\n\t\r\n"} {
			checkParse(t, s+behind, want)
		}
	}
	// Charts one behind the other, by the same cursor.
	c := cursor.New(reading.Tokens(t, "chart c { leaf a; } "+charts.Door+"chart d { or a; } }"))
	for _, want := range []api.Chart{{Name: "c", States: []api.State{leaf("a", -1)}}, charts.DoorChart(), {Name: "d", States: []api.State{or("a", -1)}}} {
		if got := syntax.Read(c); !same(got, want) {
			t.Errorf("Read: %v, not %v", got, want)
		}
	}
	if !c.Is(api.TokMark, "}") {
		t.Errorf("Read: then %v", c.Next())
	}
	if got := syntax.Read(c); !zero(got) || c.Good() {
		t.Errorf("Read at a brace: %v", got)
	}
}

// Sy1, R1: a cursor with a fault already keeps it; at the end there is ErrText; nobody's has its own.
func TestCursors(t *testing.T) {
	for _, e := range []api.Errno{api.ErrLoop, api.ErrText, api.ErrArg} {
		c := cursor.New(reading.Tokens(t, "chart c { leaf a; } chart d { leaf b; }"))
		syntax.Read(c)
		c.Fail(e)
		for range 2 {
			if got := syntax.Read(c); !zero(got) {
				t.Errorf("Read with a fault: %v", got)
			}
		}
		if at, fault := c.Fault(); at != (api.Pos{Line: 1, Col: 21}) || fault != e {
			t.Errorf("Read with a fault: fault %d at %v", fault, at)
		}
	}
	checkFault(t, nil, api.Pos{}, api.ErrText)
	checkFault(t, []api.Token{{Kind: api.TokEnd, At: api.Pos{Line: 3, Col: 4}}}, api.Pos{Line: 3, Col: 4}, api.ErrText)
	// Behind the last token stands an end of its place, of a list without one too.
	whole := reading.Tokens(t, charts.Door)
	whole = whole[:len(whole)-1]
	for size := 1; size < len(whole); size++ {
		checkFault(t, whole[:size], whole[size-1].At, api.ErrText)
	}
	checkRead(t, whole, charts.DoorChart(), api.Token{At: whole[len(whole)-1].At})
	for _, c := range []*cursor.Cursor{nil, {}} {
		if got := syntax.Read(c); !zero(got) {
			t.Errorf("Read of nobody's: %v", got)
		}
		if at, e := c.Fault(); at != (api.Pos{}) || e != api.ErrState {
			t.Errorf("Read of nobody's: fault %d at %v", e, at)
		}
	}
}

// Sy2: the empty text, and texts in which nothing stands.
func TestEmpty(t *testing.T) {
	for _, s := range []string{"@", " @", "\n\n@", "# chart c { leaf a; }@", "# chart\n @", "\t\r\n \n@"} {
		checkFaultAt(t, s, api.ErrText)
	}
}

// someTexts are the texts of some charts, one in each state's every combination, and the document's.
func someTexts(t *testing.T) []string {
	t.Helper()
	all := []string{charts.Door}
	for at, c := range charts.Combinations(t) {
		if at%41 == 0 {
			all = append(all, charts.Written(c, charts.Style{Braces: at%2 == 0}))
		}
	}
	return all
}

// Sy1, Sy2: the same text has the same chart, or the same fault at the same token, however its tokens are set apart.
func TestSetApart(t *testing.T) {
	check := func(l []api.Token) {
		first, place, fault := syntax.Parse(scan.Text(l))
		tokens := reading.Tokens(t, scan.Text(l))
		at := slices.IndexFunc(tokens, func(one api.Token) bool { return one.At == place })
		for _, way := range reading.Ways() {
			s := reading.Apart(l, way)
			got, place, e := syntax.Parse(s)
			other := slices.IndexFunc(reading.Tokens(t, s), func(one api.Token) bool { return one.At == place })
			if !same(got, first) || e != fault || other != at {
				t.Errorf("Parse(%q): %v, error %d at token %d, not %v, error %d at token %d", s, got, e, other, first, fault, at)
			}
		}
	}
	for _, s := range someTexts(t) {
		l := reading.Tokens(t, s)
		l = l[:len(l)-1]
		check(l)
		for at := range l {
			check(slices.Concat(l[:at], l[at+1:]))
		}
	}
}

// R3, R4: no call writes to the tokens that it is handed, nor behind their end; a second answer is the first one, and what is written to an answer changes no later one, and no other part of it.
func TestHandedIn(t *testing.T) {
	for _, s := range someTexts(t) {
		tokens := reading.Tokens(t, s)
		room := slices.Concat(tokens, tokens)
		was := slices.Clone(room)
		got := syntax.Read(cursor.New(room[:len(tokens)]))
		again := syntax.Read(cursor.New(room[:len(tokens)]))
		if !slices.Equal(room, was) || !same(got, again) {
			t.Errorf("Read of %q: %v, then %v; what was handed in is now %v", s, got, again, room)
		}
		first, _, _ := syntax.Parse(s)
		for at := range first.States {
			scrawl(&first.States[at])
			if !slices.EqualFunc(first.States[at+1:], again.States[at+1:], sameState) {
				t.Errorf("Parse(%q): a state is written to, and those behind it are now %v", s, first.States[at+1:])
			}
		}
		first.Events, first.Vars, first.States = append(first.Events, "more"), append(first.Vars, api.Var{Name: "more"}), append(first.States, leaf("more", 0))
		first.Events[0], first.Vars[0], first.States[0] = "other", api.Var{Name: "other"}, leaf("other", 0)
		if second, _, _ := syntax.Parse(s); !same(second, again) || !same(got, again) {
			t.Errorf("Parse(%q): a second time %v, not %v", s, second, again)
		}
	}
}

// scrawl writes to all that a state has, and behind its lists' ends.
func scrawl(s *api.State) {
	terms := func(l []api.Term) []api.Term {
		l = append(l, api.Term{Op: 99})
		for at := range l {
			l[at] = api.Term{Op: 99}
		}
		return l
	}
	acts := func(l []api.Act) []api.Act {
		for at := range l {
			l[at].Expr = terms(l[at].Expr)
		}
		l = append(l, api.Act{})
		l[0].Name = "scrawled"
		return l
	}
	s.Enter, s.Exit = acts(s.Enter), acts(s.Exit)
	for at := range s.Trans {
		s.Trans[at].Guard, s.Trans[at].Acts = terms(s.Trans[at].Guard), acts(s.Trans[at].Acts)
	}
	s.Trans = append(s.Trans, api.Trans{})
	s.Trans[0].Event = "scrawled"
}

// P1: great inputs end, without a panic.
func TestGreat(t *testing.T) {
	for _, c := range []struct {
		ahead, again string
		at           int
		e            api.Errno
	}{
		{"", "chart", 1, api.ErrText}, {"chart c {", "or a {", 3 + 12*3, api.ErrDeep}, {"chart c {", "and a {", 3 + 12*3, api.ErrDeep}, {"chart c { or a {", "leaf b ;", 6 + 59*3, api.ErrFull}, {"chart c { leaf a {", "auto ;", 6 + 16*2, api.ErrFull}, {"chart c {", "var x 1 .. 2 = 1 ;", 3 + 4*8, api.ErrFull}, {"chart c { event a", ", b", 5 + 7*2 + 1, api.ErrFull}, {"chart c { leaf a { enter any x", ", any x", 9 + 7*3 + 1, api.ErrFull}, {"chart c { leaf a {", "{", 6, api.ErrText}, {"chart c { leaf a ; }", "}", 0, api.OK},
	} {
		l := reading.Placed(slices.Concat(reading.Words(c.ahead), slices.Repeat(reading.Words(c.again), 1<<16)))
		if c.e == api.OK {
			checkRead(t, l, api.Chart{Name: "c", States: []api.State{leaf("a", -1)}}, l[len(reading.Words(c.ahead))])
			continue
		}
		checkFault(t, l, l[c.at].At, c.e)
	}
	deep := slices.Concat(reading.Words("chart c { leaf a { auto ["), slices.Repeat(reading.Words("("), 1<<16-1), reading.Words("x"), slices.Repeat(reading.Words(")"), 1<<16-1), reading.Words("] ; } }"))
	checkRead(t, deep, api.Chart{Name: "c", States: []api.State{having(t, leaf("a", -1), "", "", "auto [x];")}}, api.Token{})
}
