package charts

import (
	"slices"
	"strconv"
	"strings"

	"semblance/api"
	"semblance/reading"
)

// RuleWords are the rules' words, the first one's first.
func RuleWords() []string {
	return []string{"event", "var", "range", "name", "kids", "on", "target", "guard", "acts", "edge"}
}

// FlawsOf are the flaws of lines, with a comma between two.
func FlawsOf(t reading.Test, lines string) []api.Flaw {
	t.Helper()
	var l []api.Flaw
	for line := range strings.SplitSeq(lines, ", ") {
		if lines == "" {
			return nil
		}
		pieces := strings.Split(line, " ")
		rule := slices.Index(RuleWords(), pieces[0]) + api.RuleEvent
		if len(pieces) != 3 || rule < api.RuleEvent {
			t.Fatalf("the test's own flaws %q", lines)
		}
		item, _ := strconv.Atoi(pieces[1])
		part, _ := strconv.Atoi(pieces[2])
		l = append(l, api.Flaw{Rule: rule, Item: item, Part: part})
	}
	return l
}

// EachRule are texts between charts' braces, and the lines of their flaws: charts that break just one rule, of each rule one that breaks it once, and one that breaks it several times.
func EachRule() []struct{ Text, Lines string } {
	return []struct{ Text, Lines string }{
		{"event a, a; leaf b;", "event 1 0"}, {"event a, b, a, c, b, a; leaf d;", "event 2 0, event 4 0, event 5 0"},
		{"var x 0 .. 1 = 0; var x 0 .. 1 = 0; leaf a;", "var 1 0"}, {"var x 0 .. 1 = 0; var x 2 .. 3 = 2; var y 0 .. 0 = 0; var x 0 .. 1 = 0; leaf a;", "var 1 0, var 3 0"},
		{"var x 0 .. 1 = 2; leaf a;", "range 0 0"}, {"var x 1 .. 0 = 0; var y 0 .. 1 = 0; var z 0 .. 64 = 0; var n 0 .. 1 = -1; leaf a;", "range 0 0, range 2 0, range 3 0"},
		{"or a { leaf a; }", "name 1 0"}, {"or a { leaf b; or c { leaf b; leaf a; } leaf d; leaf b; }", "name 3 0, name 4 0, name 6 0"},
		{"and a;", "kids 0 0"}, {"or a { and b { leaf c; } or d; leaf e; and f; }", "kids 1 0, kids 3 0, kids 5 0"},
		{"leaf a { on b; }", "on 0 0"}, {"event a; or a { on b; auto; on a; on c; leaf b { on a; on d; } leaf c { on e; } }", "on 0 0, on 0 3, on 1 1, on 2 0"},
		{"leaf a { auto -> b; }", "target 0 0"}, {"or a { auto -> c; auto -> b; auto; leaf b { auto -> a; auto -> a; auto -> d; } leaf e { auto -> f; } }", "target 0 0, target 1 2, target 2 0"},
		{"leaf a { auto [1]; }", "guard 0 0"}, {"or a { auto [1]; auto [true]; auto [x < 1]; leaf b { auto; auto [in(c)]; } }", "guard 0 0, guard 0 2, guard 1 1"},
		{"leaf a { auto / any x; }", "acts 0 0"}, {"var x 0 .. 1 = 0; or a { auto / x := 1; auto / x := true; auto / x := y; leaf b { auto / any x; auto / any y; } }", "acts 0 1, acts 0 2, acts 1 1"},
		{"leaf a { enter x := 1; }", "edge 0 0"}, {"leaf a { exit x := 1; }", "edge 0 1"}, {"var x 0 .. 1 = 0; leaf a { enter any x; }", "edge 0 0"}, {"var x 0 .. 1 = 0; or a { enter any x; exit any x; leaf b { enter x := 1; exit x := true; } leaf c { enter y := 1; exit x := 1; } }", "edge 0 0, edge 0 1, edge 1 1, edge 2 0"},
	}
}

// SeveralRules are the same of charts that break several rules at once; what breaks a later one may stand ahead.
func SeveralRules() []struct{ Text, Lines string } {
	return []struct{ Text, Lines string }{
		{"event a, a; var x 1 .. 0 = 5; var x 0 .. 64 = 65; or b { leaf b; }", "event 1 0, var 1 0, range 0 0, range 1 0, name 1 0"},
		{"event a, a, a; var x 2 .. 1 = 1; var x 0 .. 0 = 1; leaf b;", "event 1 0, event 2 0, var 1 0, range 0 0, range 1 0"},
		{"and a { enter any y; exit any x; on b [1] / x := true -> b; }", "kids 0 0, on 0 0, target 0 0, guard 0 0, acts 0 0, edge 0 0, edge 0 1"},
		{"event e, e; var x 1 .. 0 = 0; var x 0 .. 0 = 0; or a { enter y := 1; and a { exit z := 1; auto; on d -> d; leaf b { auto [y]; on e / any y; } } leaf b { on b [in(z)] / x := in(a) -> x; } }",
			"event 1 0, var 1 0, range 0 0, name 1 0, name 3 0, kids 1 0, on 1 1, on 3 0, target 1 1, target 3 0, guard 2 0, guard 3 0, acts 2 1, acts 3 0, edge 0 0, edge 1 1"},
		// What stands twice is one that there is, and has what a chart has.
		{"event a, a; var x 0 .. 0 = 0; var x 0 .. 0 = 0; or b { leaf b; leaf b { enter x := x; on a [in(b)] / any x -> b; } }", "event 1 0, var 1 0, name 1 0, name 2 0"},
		{"or a { auto -> b; on e; or c { auto -> b; on e; } }", "kids 1 0, on 0 1, on 1 1, target 0 0, target 1 0"},
		{"or a { exit x := 1; leaf b { enter x := 1; auto / any x; auto [2] -> b; } leaf b { exit any y; auto [in(d)] -> d; } }", "name 2 0, target 2 0, guard 1 1, guard 2 0, acts 1 0, edge 0 1, edge 1 0, edge 2 1"},
		{"var x 0 .. 64 = 65; var y 0 .. 0 = 0; or a { on y; or y; }", "range 0 0, kids 1 0, on 0 0"},
	}
}
