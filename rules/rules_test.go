package rules_test

import (
	"math"
	"slices"
	"testing"

	"semblance/api"
	"semblance/charts"
	"semblance/print"
	"semblance/rules"
)

// flaw is one by its rule, its Item and its Part.
func flaw(rule, item, part int) api.Flaw { return api.Flaw{Rule: rule, Item: item, Part: part} }

// asked are all rules, and numbers that are none.
func asked() []int {
	l := []int{math.MinInt, -1 << 32, -1000, -2, -1, 0, api.Rules, api.Rules + 1, 99, 1 << 32, 1<<32 + 1, math.MaxInt}
	for rule := api.RuleEvent; rule < api.Rules; rule++ {
		l = append(l, rule)
	}
	return l
}

// check holds what is broken of a chart, by each rule, against what it must be, in its order.
func check(t *testing.T, c api.Chart, want []api.Flaw) {
	t.Helper()
	for _, rule := range asked() {
		var own []api.Flaw
		for _, one := range want {
			if one.Rule == rule {
				own = append(own, one)
			}
		}
		if got := rules.Broken(c, rule); !slices.Equal(got, own) {
			t.Errorf("Broken(%v, %d): %v, not %v", c, rule, got, own)
		}
		if got := rules.Kept(c, rule); got != (len(own) == 0) {
			t.Errorf("Kept(%v, %d): %t", c, rule, got)
		}
	}
}

// chartOf is the chart of a text between the braces; it may be told.
func chartOf(t *testing.T, s string) api.Chart {
	t.Helper()
	c := charts.Within(t, s)
	if print.Check(c) != api.OK {
		t.Fatalf("the test's own text %q may not be told", s)
	}
	return c
}

// table is texts between a chart's braces, and the flaws of each.
type table []struct{ Text, Lines string }

// check holds what is broken of each chart against what it must be.
func (l table) check(t *testing.T) {
	t.Helper()
	for _, c := range l {
		check(t, chartOf(t, c.Text), charts.FlawsOf(t, c.Lines))
	}
}

// Ru1: the chapter's example, and charts of which no rule is broken.
func TestExample(t *testing.T) {
	check(t, chartOf(t, "or a;"), []api.Flaw{flaw(api.RuleKids, 0, 0)})
	check(t, charts.DoorChart(), nil)
	check(t, chartOf(t, charts.Sound), nil)
	table{{"leaf a;", ""}, {"event a; leaf a { on a; }", ""}, {"var a 0 .. 0 = 0; leaf a { enter a := a; }", ""}, {"or a { leaf b; }", ""}, {"and a { leaf b; leaf d; }", ""}}.check(t)
}

// Ru1: of each rule a chart that breaks just that one once, and one that breaks it several times.
func TestEachRule(t *testing.T) {
	table(charts.EachRule()).check(t)
}

// Ru1: charts of which several rules are broken at once: by each just its own.
func TestSeveralRules(t *testing.T) {
	table(charts.SeveralRules()).check(t)
}

// Ru1: RuleEvent, RuleVar, RuleName: the second one of a name and those behind it; an event, a variable and a state may share one.
func TestTwins(t *testing.T) {
	table{
		{"event a, b; leaf c;", ""}, {"event a, b, a; leaf c;", "event 2 0"}, {"event b, a, a; leaf c;", "event 2 0"}, {"event a, a, b, a; leaf c;", "event 1 0, event 3 0"}, {"event a, b, a, b; leaf c;", "event 2 0, event 3 0"}, {"event a, a, a, a, a, a, a, a; leaf c;", "event 1 0, event 2 0, event 3 0, event 4 0, event 5 0, event 6 0, event 7 0"},
		{"event a, ab, a_, a0, abcdefghijkl, abcdefghijk; leaf c;", ""},
		{"var a 0 .. 0 = 0; var b 0 .. 0 = 0; leaf c;", ""}, {"var a 0 .. 0 = 0; var b 0 .. 0 = 0; var a 0 .. 0 = 0; leaf c;", "var 2 0"}, {"var a 0 .. 0 = 0; var a 0 .. 0 = 0; var a 0 .. 0 = 0; leaf c;", "var 1 0, var 2 0"}, {"var a 0 .. 1 = 0; var b 0 .. 0 = 0; var b 1 .. 2 = 1; var a 5 .. 6 = 5; leaf c;", "var 2 0, var 3 0"},
		{"or a { leaf b; leaf c; }", ""}, {"or a { leaf b; leaf b; leaf b; }", "name 2 0, name 3 0"}, {"or a { leaf b; or c { or b { leaf a; } } }", "name 3 0, name 4 0"}, {"or a { or a { or a { leaf a; } } }", "name 1 0, name 2 0, name 3 0"}, {"or c { leaf a; leaf ab; }", ""},
		// The chart's own name is no one of them.
		{"event c; var c 0 .. 0 = 0; leaf c;", ""},
		{"event a, b; var a 0 .. 0 = 0; var b 0 .. 0 = 0; or a { leaf b; }", ""}, {"event a; var a 0 .. 0 = 0; leaf b;", ""}, {"var a 0 .. 0 = 0; leaf a;", ""}, {"event a; leaf a;", ""},
		{"event a, a; var a 0 .. 0 = 0; leaf a;", "event 1 0"}, {"event a; var a 0 .. 0 = 0; var a 0 .. 0 = 0; leaf a;", "var 1 0"}, {"event a; var a 0 .. 0 = 0; or a { leaf a; }", "name 1 0"},
	}.check(t)
}

// Ru1: RuleRange, at the edges of the range and of the first value, of each variable.
func TestRange(t *testing.T) {
	table{
		{"var x 0 .. 0 = 0; leaf a;", ""}, {"var x 1 .. 0 = 0; leaf a;", "range 0 0"}, {"var x 1 .. 0 = 1; leaf a;", "range 0 0"}, {"var x 1000 .. -1000 = 0; leaf a;", "range 0 0"}, {"var x 5 .. 5 = 5; leaf a;", ""}, {"var x 6 .. 5 = 5; leaf a;", "range 0 0"}, {"var x -5 .. -5 = -5; leaf a;", ""}, {"var x -4 .. -5 = -5; leaf a;", "range 0 0"}, {"var x 0 .. -1 = 0; leaf a;", "range 0 0"},
		{"var x 0 .. 62 = 0; leaf a;", ""}, {"var x 0 .. 63 = 0; leaf a;", ""}, {"var x 0 .. 64 = 0; leaf a;", "range 0 0"}, {"var x 0 .. 65 = 0; leaf a;", "range 0 0"}, {"var x -31 .. 32 = 0; leaf a;", ""}, {"var x -32 .. 32 = 0; leaf a;", "range 0 0"}, {"var x 937 .. 1000 = 1000; leaf a;", ""}, {"var x 936 .. 1000 = 1000; leaf a;", "range 0 0"}, {"var x -1000 .. -937 = -1000; leaf a;", ""}, {"var x -1000 .. -936 = -1000; leaf a;", "range 0 0"}, {"var x -63 .. 0 = 0; leaf a;", ""}, {"var x -64 .. 0 = 0; leaf a;", "range 0 0"}, {"var x -1000 .. 1000 = 0; leaf a;", "range 0 0"},
		{"var x 2 .. 4 = 1; leaf a;", "range 0 0"}, {"var x 2 .. 4 = 2; leaf a;", ""}, {"var x 2 .. 4 = 3; leaf a;", ""}, {"var x 2 .. 4 = 4; leaf a;", ""}, {"var x 2 .. 4 = 5; leaf a;", "range 0 0"}, {"var x 0 .. 63 = -1; leaf a;", "range 0 0"}, {"var x 0 .. 63 = 63; leaf a;", ""}, {"var x 0 .. 63 = 64; leaf a;", "range 0 0"}, {"var x -4 .. -2 = 0; leaf a;", "range 0 0"}, {"var x -4 .. -2 = 3; leaf a;", "range 0 0"}, {"var x -4 .. -2 = -3; leaf a;", ""}, {"var x 1 .. 1 = 0; leaf a;", "range 0 0"}, {"var x 1 .. 1 = 2; leaf a;", "range 0 0"},
		// All of it at once is one flaw.
		{"var x 64 .. -1 = 70; leaf a;", "range 0 0"}, {"var x -70 .. 70 = 99; leaf a;", "range 0 0"},
		{"var x 0 .. 1 = 0; var y 1 .. 0 = 0; leaf a;", "range 1 0"}, {"var x 0 .. 1 = 0; var y 0 .. 1 = 1; var z 0 .. 1 = 1; var n 0 .. 64 = 1; leaf a;", "range 3 0"}, {"var a 1 .. 0 = 0; var b 0 .. 64 = 0; var d 0 .. 1 = 2; var e 0 .. 1 = -1; leaf a;", "range 0 0, range 1 0, range 2 0, range 3 0"},
	}.check(t)
}

// Ru1: RuleKids, by how many are right below; those further below do not count.
func TestKids(t *testing.T) {
	table{
		{"or a { }", "kids 0 0"}, {"or a { leaf b; }", ""}, {"or a { leaf b; leaf d; }", ""}, {"and a { }", "kids 0 0"}, {"and a { leaf b; }", "kids 0 0"}, {"and a { leaf b; leaf d; }", ""}, {"and a { leaf b; leaf d; leaf e; }", ""}, {"leaf a { }", ""},
		{"and a { or b { leaf d; } }", "kids 0 0"}, {"and a { or b { leaf d; leaf e; leaf f; } }", "kids 0 0"}, {"and a { and b { leaf d; leaf e; } }", "kids 0 0"}, {"and a { or b { or d { leaf e; } } leaf f; }", ""}, {"or a { or b; }", "kids 1 0"}, {"or a { and b; }", "kids 1 0"}, {"and a { or b; or d; }", "kids 1 0, kids 2 0"}, {"and a { and b { and d; and e; } }", "kids 0 0, kids 2 0, kids 3 0"},
		{"or a { or b; leaf d; }", "kids 1 0"}, {"or a { leaf b; or d; }", "kids 2 0"}, {"or a { leaf b; and d { leaf e; } leaf f; }", "kids 2 0"}, {"or a { or b { or d { or e; } } }", "kids 3 0"}, {"and a { leaf b; and d { or e { leaf f; } } }", "kids 2 0"}, {"or a { enter x := 1; on b; leaf d; }", "on 0 0, edge 0 0"}, {"or a { on b; on b; }", "kids 0 0, on 0 0, on 0 1"},
	}.check(t)
}

// Ru1: RuleOn, by the chart's events alone, and RuleTarget, by its states alone.
func TestOnAndTarget(t *testing.T) {
	table{
		{"event a, b; leaf d { auto; on a; on b; auto; }", ""}, {"event a, b; leaf d { auto; on a; on d; on ab; on b; }", "on 0 2, on 0 3"}, {"leaf a { on a; }", "on 0 0"}, {"var x 0 .. 1 = 0; leaf a { on x; on a; on c; }", "on 0 0, on 0 1, on 0 2"}, {"event a; or b { on a; leaf d { on a; on e; } leaf e { on e; on e; auto; on a; } }", "on 1 1, on 2 0, on 2 1"}, {"event abcdefghijkl; leaf a { on abcdefghijkl; on abcdefghijk; }", "on 0 1"},
		// Parts from 0 to the last one that may be, of the first and of the last state.
		{"or a { on b; on b; on b; on b; on b; on b; on b; on b; on b; on b; on b; on b; on b; on b; on b; on b; leaf d { auto; auto; auto; auto; auto; auto; auto; auto; auto; auto; auto; auto; auto; auto; auto; on b; } }",
			"on 0 0, on 0 1, on 0 2, on 0 3, on 0 4, on 0 5, on 0 6, on 0 7, on 0 8, on 0 9, on 0 10, on 0 11, on 0 12, on 0 13, on 0 14, on 0 15, on 1 15"},
		{"or a { auto; auto -> b; auto -> a; auto -> d; leaf b { auto -> b; auto -> a; } }", "target 0 3"}, {"leaf a { auto -> a; }", ""}, {"leaf a { auto -> ab; auto -> a; auto -> c; }", "target 0 0, target 0 2"}, {"event e; var x 0 .. 1 = 0; or a { on e -> e; on e -> x; leaf b { on e -> a; auto -> x; } leaf d { auto -> e; } }", "target 0 0, target 0 1, target 1 1, target 2 0"}, {"or a { or b { leaf d { auto -> e; } } or e { leaf f { auto -> d; auto -> g; } } }", "target 4 1"},
		{"event go; leaf a { on go -> go; on a -> a; on b -> b; }", "on 0 1, on 0 2, target 0 0, target 0 2"},
	}.check(t)
}

// Ru1: RuleGuard: what is true or false, of the chart's variables where a variable's name stands, of its states where a state's does.
func TestGuard(t *testing.T) {
	ahead := "event e; var x 0 .. 1 = 0; var y 0 .. 1 = 0; or a { leaf b; leaf d { "
	for guard, good := range map[string]bool{
		"true": true, "false": true, "x < 1": true, "x == y": true, "in(a)": true, "in(d)": true, "not in(b)": true, "in(a) and x < y or in(b)": true, "x + y * 2 > min(x, -y)": true, "1 != 2": true,
		"1": false, "x": false, "x + 1": false, "-x": false, "min(x, y)": false, "0": false,
		"true + 1": false, "true < 1": false, "x and y": false, "not x": false, "x or true": false, "true and 1": false, "true == true": false, "in(a) == in(b)": false, "-true < 1": false, "not (x + 1)": false, "min(true, 1) < 2": false, "true and (true and 1)": false,
		"z < 1": false, "x < z": false, "in(a) and z < 1": false, "z < 1 and in(a)": false, "x < 1 or y < 1 or z < 1": false, "x + z < 1": false, "not z < 1": false,
		"in(z)": false, "not in(z)": false, "in(a) and in(z)": false, "in(z) and in(a)": false, "true or in(z)": false, "x < 1 and in(z)": false,
		"a < 1": false, "x < b": false, "in(x)": false, "in(a) or in(y)": false, "e < 1": false, "in(e)": false, "c < 1": false, "in(c)": false, "in(a) and a < 1": false, "in(x) and x < 1": false,
	} {
		want := []api.Flaw{flaw(api.RuleGuard, 2, 1)}
		if good {
			want = nil
		}
		check(t, chartOf(t, ahead+"auto; on e ["+guard+"] -> b; auto; } }"), want)
	}
	table{
		{"leaf a { auto; auto; }", ""}, {"or a { auto [1]; leaf b { auto; auto [x]; auto [x < 1]; } leaf d { auto [true]; auto [in(b)]; auto [in(x)]; } }", "guard 0 0, guard 1 1, guard 1 2, guard 2 2"},
		{"var a 0 .. 1 = 0; leaf a { auto [in(a) and a < 1]; auto [a]; }", "guard 0 1"},
	}.check(t)
}

// acts are acts, and whether they are of a chart with the variables x and y, and the states a, b and d.
var acts = map[string]bool{
	"x := 1": true, "x := x + y * 2": true, "x := 1, y := x, x := -y": true, "y := min(x, max(y, 3))": true, "x := 1000000": true,
	"z := 1": false, "a := 1": false, "e := 1": false, "c := 1": false, "x := 1, z := 1": false, "z := 1, x := 1": false,
	"x := true": false, "x := x < 1": false, "x := in(a)": false, "x := not in(a)": false, "x := 1, y := false": false, "x := x or y": false, "x := true + 1": false, "x := -true": false, "x := x and true": false, "y := x + (x < 1)": false,
	"x := z": false, "x := x + z": false, "x := a": false, "x := e": false, "x := 1, y := z, x := 1": false, "x := in(z)": false, "x := min(1, in(z))": false, "z := z": false,
}

// Ru1: RuleActs, also by what takes any value.
func TestActs(t *testing.T) {
	ahead := "event e; var x 0 .. 1 = 0; var y 0 .. 1 = 0; or a { leaf b; leaf d { "
	ask := func(acts string, good bool) {
		t.Helper()
		want := []api.Flaw{flaw(api.RuleActs, 2, 1)}
		if good {
			want = nil
		}
		check(t, chartOf(t, ahead+"auto; on e / "+acts+" -> b; auto; } }"), want)
	}
	for acts, good := range acts {
		ask(acts, good)
		ask("any x, "+acts, good)
		ask(acts+", any y", good)
		ask("any z, "+acts, false)
		ask(acts+", any a", false)
	}
	table{
		{"leaf a { auto; auto; }", ""}, {"var x 0 .. 1 = 0; leaf a { auto / any x; auto / any x, any x; auto / any a; auto / any x, any y; auto / any y, any x; }", "acts 0 2, acts 0 3, acts 0 4"},
		{"var x 0 .. 1 = 0; or a { auto / x := y; leaf b { auto / x := 1; } leaf d { auto; auto; auto / any y; auto / y := 1; } }", "acts 0 0, acts 2 2, acts 2 3"},
		{"var x 0 .. 1 = 0; leaf a { auto / x := 1, x := 1, x := 1, x := 1, x := 1, x := 1, x := 1, x := 1; auto / x := 1, x := 1, x := 1, x := 1, x := 1, x := 1, x := 1, x := in(a); }", "acts 0 1"},
	}.check(t)
}

// Ru1: RuleEdge: Enter is Part 0, Exit is Part 1; no value of any kind there.
func TestEdge(t *testing.T) {
	ahead := "event e; var x 0 .. 1 = 0; var y 0 .. 1 = 0; or a { leaf b; leaf d { "
	ask := func(acts string, good bool) {
		t.Helper()
		entered, left := []api.Flaw{flaw(api.RuleEdge, 2, 0)}, []api.Flaw{flaw(api.RuleEdge, 2, 1)}
		both := slices.Concat(entered, left)
		if good {
			entered, left, both = nil, nil, nil
		}
		check(t, chartOf(t, ahead+"enter "+acts+"; } }"), entered)
		check(t, chartOf(t, ahead+"exit "+acts+"; on e; } }"), left)
		check(t, chartOf(t, ahead+"enter "+acts+"; exit x := 1; } }"), entered)
		check(t, chartOf(t, ahead+"enter y := x; exit "+acts+"; } }"), left)
		check(t, chartOf(t, ahead+"enter "+acts+"; exit "+acts+"; } }"), both)
	}
	for acts, good := range acts {
		ask(acts, good)
		for _, other := range []string{"any x", "any z"} {
			ask(other+", "+acts, false)
			ask(acts+", "+other, false)
		}
	}
	ask("any x", false)
	ask("any z", false)
	table{
		{"var x 0 .. 1 = 0; or a { enter x := 1; exit any x; leaf b { enter any x; exit x := 1; } leaf d { enter any x; exit any x; } leaf e { enter x := 0; exit x := 0; } }", "edge 0 1, edge 1 0, edge 2 0, edge 2 1"},
		// What a transition does is not asked about here, nor the other way round.
		{"var x 0 .. 1 = 0; leaf a { enter x := 1; auto / any x; auto / any y; }", "acts 0 1"}, {"var x 0 .. 1 = 0; leaf a { exit any x; auto / any x; }", "edge 0 1"},
	}.check(t)
}

// Ru1: an Expr beside Any is not asked about: not by RuleActs, and RuleEdge is broken by the Any.
func TestExprBesideAny(t *testing.T) {
	for _, l := range [][]api.Term{nil, {{Op: api.TmNum, N: 1}}, {{Op: api.TmTrue}}, {{Op: api.TmVar, Name: "z"}}, {{Op: api.TmIn, Name: "z"}}, {{Op: api.TmAdd}}, {{}}} {
		c := chartOf(t, "var x 0 .. 1 = 0; leaf a { enter x := 1; exit x := 1; auto / any x; }")
		s := &c.States[0]
		s.Trans[0].Acts[0].Expr = l
		check(t, c, nil)
		s.Enter, s.Exit = s.Trans[0].Acts, s.Trans[0].Acts
		check(t, c, []api.Flaw{flaw(api.RuleEdge, 0, 0), flaw(api.RuleEdge, 0, 1)})
		s.Enter, s.Exit = nil, nil
		s.Trans[0].Acts[0].Name = "z"
		check(t, c, []api.Flaw{flaw(api.RuleActs, 0, 0)})
	}
}
