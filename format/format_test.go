package format_test

import (
	"strings"
	"testing"

	"semblance/api"
	"semblance/charts"
	"semblance/format"
	"semblance/print"
	"semblance/reading"
	"semblance/scan"
	"semblance/syntax"
)

// door is the form of the document's chart.
const door = charts.DoorForm

// checkForm: a text has that form, which is its own one, the same chart, and no more tokens.
func checkForm(t *testing.T, s, want string) {
	t.Helper()
	if got, at, e := format.Of(s); got != want || at != (api.Pos{}) || e != api.OK {
		t.Errorf("Of(%q): %q, %v, error %d, not %q", s, got, at, e, want)
	}
	if is := format.Is(s); is != (s == want) {
		t.Errorf("Is(%q): %t", s, is)
	}
	if got, at, e := format.Of(want); got != want || at != (api.Pos{}) || e != api.OK || !format.Is(want) {
		t.Errorf("Of(%q): %q, %v, error %d, not itself", want, got, at, e)
	}
	a, _, e := syntax.Parse(s)
	b, _, f := syntax.Parse(want)
	if e != api.OK || f != api.OK || !format.Same(a, b) || !charts.Same(a, b) {
		t.Errorf("%q is not the same chart as %q", s, want)
	}
	if reading.Count(t, want) > reading.Count(t, s) {
		t.Errorf("Of(%q): %q has more tokens", s, want)
	}
}

// checkFault: a text has no form, but that error, at that place.
func checkFault(t *testing.T, s string, want api.Pos, fault api.Errno) {
	t.Helper()
	if got, at, e := format.Of(s); got != "" || at != want || e != fault {
		t.Errorf("Of(%q): %q, %v, error %d, not %v, error %d", s, got, at, e, want, fault)
	}
	if format.Is(s) {
		t.Errorf("Is(%q): true", s)
	}
}

// checkFaultAt: a text without its @ has no form, but that error where the @ stood.
func checkFaultAt(t *testing.T, s string, fault api.Errno) {
	t.Helper()
	text, at := reading.Marked(t, s)
	checkFault(t, text, at, fault)
}

// checkText: of any text Of and Is are what layers 11 and 12 say; the error is told.
func checkText(t *testing.T, s string) api.Errno {
	t.Helper()
	c, at, e := syntax.Parse(s)
	if e != api.OK {
		checkFault(t, s, at, e)
		return e
	}
	form, e := print.Put(c)
	if e != api.OK {
		checkFault(t, s, api.Pos{}, api.ErrLong)
		return api.ErrLong
	}
	checkForm(t, s, form)
	return api.OK
}

// Fm1, Fm2: the chapter's example: what has blanks and remarks more, or fewer, has the same form; and the document's chart, whose form has 12 lines.
func TestExample(t *testing.T) {
	for _, s := range []string{
		"chart c { leaf a; }", "chart c{leaf a;}", " chart\tc\r\n{\n\nleaf a ; } ", "# chart d {\nchart c { # { leaf b;\n  leaf a; # }\n}", "chart c {\n  leaf a;\n}\n", "chart c {\n  leaf a;\n}", "\n\n\nchart # no\n c # $ \xff\n { leaf # or\n a # ;\n ; # x\n } # }",
	} {
		checkForm(t, s, "chart c {\n  leaf a;\n}\n")
	}
	for _, s := range []string{
		charts.Door, door, "\n" + door, door + "\n", door + "# the end", strings.TrimSuffix(door, "\n"), strings.ReplaceAll(door, "\n", "\r\n"), strings.ReplaceAll(door, "  ", "\t"), strings.ReplaceAll(door, "\n", " # on\n"), strings.ReplaceAll(door, "  ", ""),
		"chart door{event go;var n 0..1=0;or house{leaf shut{on go->open;}leaf open{on go[n<1]/n:=n+1->shut;}}}",
	} {
		checkForm(t, s, door)
	}
	form, _, _ := format.Of(charts.Door)
	if lines := strings.Split(form, "\n"); len(lines) != 13 || lines[4] != "    leaf shut {" || lines[12] != "" {
		t.Errorf("the form of the document's chart: %q", lines)
	}
}

// Fm1, Fm2: forms of charts' parts, one by one.
func TestForms(t *testing.T) {
	for _, c := range []struct{ s, want string }{
		// Events and variables, whose numbers may have a minus.
		{"event go;leaf a;", "  event go;\n  leaf a;\n"}, {"event go,come , b;leaf a;", "  event go, come, b;\n  leaf a;\n"}, {"event b, a, b; leaf a;", "  event b, a, b;\n  leaf a;\n"},
		{"var x 1..2=1;leaf a;", "  var x 1 .. 2 = 1;\n  leaf a;\n"}, {"var x - 5 .. -2=- 3; leaf a;", "  var x -5 .. -2 = -3;\n  leaf a;\n"}, {"var x -0 .. - 0 = -\n0; leaf a;", "  var x 0 .. 0 = 0;\n  leaf a;\n"}, {"var x -1000 .. 1000 = -0; leaf a;", "  var x -1000 .. 1000 = 0;\n  leaf a;\n"}, {"event x; var x 5 .. 1 = 9; var x 5 .. 1 = 9; leaf a;", "  event x;\n  var x 5 .. 1 = 9;\n  var x 5 .. 1 = 9;\n  leaf a;\n"},
		// Braces with nothing in them, and a semicolon.
		{"leaf a;", "  leaf a;\n"}, {"leaf a { }", "  leaf a;\n"}, {"or a{}", "  or a;\n"}, {"and a { # leaf b;\n }", "  and a;\n"}, {"or a { leaf b { } and d; or e{} }", "  or a {\n    leaf b;\n    and d;\n    or e;\n  }\n"}, {"or a { or b { or d { } } }", "  or a {\n    or b {\n      or d;\n    }\n  }\n"},
		// What is done in a state.
		{"leaf a { enter any x,x:=(1); }", "  leaf a {\n    enter any x, x := 1;\n  }\n"}, {"and a { exit x:=-(1) ; leaf b; }", "  and a {\n    exit x := -1;\n    leaf b;\n  }\n"}, {"or a{enter any x;exit any y;auto;leaf b{auto->a;on c/any x;}}", "  or a {\n    enter any x;\n    exit any y;\n    auto;\n    leaf b {\n      auto -> a;\n      on c / any x;\n    }\n  }\n"},
		{"leaf a { on b[x]; on b[(x)]/any x; on b[((x))]/any x->a; auto[not(x)]->a; }", "  leaf a {\n    on b [x];\n    on b [x] / any x;\n    on b [x] / any x -> a;\n    auto [not x] -> a;\n  }\n"},
		{"leaf a { enter x := -0; exit x := - -0; auto [0 == -0]; }", "  leaf a {\n    enter x := -0;\n    exit x := --0;\n    auto [0 == -0];\n  }\n"},
		{"leaf a { enter x := 1000000; exit x := 1001 ; }", "  leaf a {\n    enter x := 1000000;\n    exit x := 1001;\n  }\n"},
		// Names that nobody has, and that stand twice.
		{"or a { leaf a { on a [in( a )] -> nowhere; } leaf a; }", "  or a {\n    leaf a {\n      on a [in(a)] -> nowhere;\n    }\n    leaf a;\n  }\n"},
	} {
		checkForm(t, "chart c{"+c.s+"}", "chart c {\n"+c.want+"}\n")
		checkForm(t, "\n chart c { "+c.s+" } # }", "chart c {\n"+c.want+"}\n")
	}
}

// Fm1, Fm2: brackets that are needed stay, others do not, wherever an expression stands.
func TestBrackets(t *testing.T) {
	for _, c := range []struct{ s, want string }{
		{"((x))", "x"}, {"(1)", "1"}, {"(true)", "true"}, {"((in(a)))", "in(a)"}, {"min((a),(b+c))", "min(a, b + c)"}, {"max(((a or b)), not(c))", "max(a or b, not c)"},
		{"(a+b)+c", "a + b + c"}, {"a+(b+c)", "a + (b + c)"}, {"a-(b-c)", "a - (b - c)"}, {"(a-b)-c", "a - b - c"}, {"((a)+(b))*c", "(a + b) * c"}, {"(a*b)+c", "a * b + c"}, {"a+(b*c)", "a + b * c"}, {"a*(b*c)", "a * (b * c)"}, {"(a*b)*c", "a * b * c"},
		{"-(x)", "-x"}, {"-(-(x))", "--x"}, {"-(a+b)", "-(a + b)"}, {"-(a*b)", "-(a * b)"}, {"(-a)*b", "-a * b"}, {"a*(-b)", "a * -b"}, {"a-(-b)", "a - -b"}, {"(-a)-b", "-a - b"},
		{"not(a)", "not a"}, {"not(not(a))", "not not a"}, {"not(a==b)", "not a == b"}, {"(not a)==b", "(not a) == b"}, {"not(a and b)", "not (a and b)"}, {"(not a)and b", "not a and b"}, {"-(not a)", "-(not a)"},
		{"(a and b)or c", "a and b or c"}, {"a or(b and c)", "a or b and c"}, {"(a or b)and c", "(a or b) and c"}, {"a and(b or c)", "a and (b or c)"}, {"a or(b or c)", "a or (b or c)"}, {"(a or b)or c", "a or b or c"}, {"a and(b and c)", "a and (b and c)"},
		{"(a<b)and(c<=d)", "a < b and c <= d"}, {"(a<b)==c", "(a < b) == c"}, {"a!=(b>c)", "a != (b > c)"}, {"(a+b)>=(c-d)", "a + b >= c - d"}, {"(a or b)<c", "(a or b) < c"}, {"(((a)))-(((b)-((c))))", "a - (b - c)"},
	} {
		for _, place := range []struct{ s, want string }{
			{"enter x := E;", "enter x := E;"}, {"exit any y, x:=(E),any z;", "exit any y, x := E, any z;"}, {"on b[E];", "on b [E];"}, {"auto[(E)]/x:=((E))->a;", "auto [E] / x := E -> a;"},
		} {
			s, want := strings.ReplaceAll(place.s, "E", c.s), strings.ReplaceAll(place.want, "E", c.want)
			checkForm(t, "chart c { leaf a { "+s+" } }", "chart c {\n  leaf a {\n    "+want+"\n  }\n}\n")
		}
	}
}

// Fm1: each of layer 11's errors, at its place, and the empty text beside it.
func TestFaults(t *testing.T) {
	eight := strings.Repeat("any x, ", 7) + "any x"
	deep, full := strings.Repeat("-", 12)+"x", strings.Repeat("-", 40)+"x"
	one := "var x 1 .. 2 = 1; "
	for _, c := range []struct {
		e     api.Errno
		texts []string
	}{
		{api.ErrText, []string{
			"@", " @", "\n\n @", "# chart c { leaf a; }@", "@leaf a;", "chart@", "chart @or { leaf a; }", "chart c { @}", "chart c { leaf a;@", "chart c { leaf a; @leaf b; }", "chart c { leaf a; }@;", "chart c {\n  leaf a;\n}\n@}", "chart c { leaf a; } @chart c { leaf a; }", "chart c { leaf a { @leaf b; } }", "chart c { or a { leaf b; @on b; } }",
			"chart c { leaf a; @$ }", "chart c { leaf a; } @$", "or or or\n @!", "chart c { leaf a { on @1; } }", "chart c { leaf a { auto [a < b @< c]; } }", "chart c { leaf a { enter x @= 1; } }", "chart c { event @; leaf a; }", "chart c { leaf a { enter any x; @enter any y; } }",
			// Numbers with zeros ahead.
			"chart c { var x @01 .. 2 = 1; leaf a; }", "chart c { var x 1 .. @00 = 1; leaf a; }", "chart c { var x 1 .. 2 = -@01; leaf a; }", "chart c { leaf a { enter x := @007; } }", "chart c { leaf a { auto [x < -@00]; } }", "chart c { var x @1x .. 2 = 1; leaf a; }",
			// The document's chart without its last brace.
			strings.TrimSuffix(charts.Door, "}") + "@", strings.TrimSuffix(door, "}\n") + "@",
		}},
		{api.ErrRange, []string{"chart c { var x @1001 .. 2 = 1; leaf a; }", "chart c { var x 1 .. 2 = -@1001; leaf a; }", "chart c { leaf a { enter x := @1000001; } }", "chart c { leaf a {\nauto [@999999999]; } }"}},
		{api.ErrLong, []string{"chart @abcdefghijklm { leaf a; }", "chart c { leaf a; }\n@abcdefghijklm", "chart c { var x @1000000000 .. 2 = 1; leaf a; }", "or 1 } @abcdefghijklm $"}},
		{api.ErrDeep, []string{"chart c { " + strings.Repeat("or a { ", 12) + "@leaf b; " + strings.Repeat("} ", 13), "chart c { leaf a { enter x := " + deep + "@; } }", "chart c { leaf a { auto [" + deep + "@]; } }"}},
		{api.ErrFull, []string{
			"chart c { event a, b, c, d, e, f, g, h, @i; leaf a; }", "chart c { " + strings.Repeat(one, 4) + "@" + one + "leaf a; }", "chart c { leaf a { " + strings.Repeat("auto; ", 16) + "@on a; } }", "chart c { or a { " + strings.Repeat("leaf b; ", 59) + "@leaf b; } }",
			"chart c { leaf a { enter " + eight + ", @any x; } }", "chart c { leaf a { exit x := " + full + "@; } }", "chart c { leaf a { on b [" + full + "@]; } }",
		}},
	} {
		for _, s := range c.texts {
			checkFaultAt(t, s, c.e)
			text, _ := reading.Marked(t, s)
			if e := checkText(t, text); e != c.e {
				t.Errorf("%q has error %d, not %d", text, e, c.e)
			}
		}
	}
}

// Fm1, Fm2: as much of all as may be: as many as may be of each, as deep, as long.
func TestMost(t *testing.T) {
	eight := strings.Repeat("any x, ", 7) + "any x"
	sum := "x" + strings.Repeat(" + x", 11)
	checkForm(t, "chart abcdefghijkl { event a, b, c, d, e, f, g, abcdefghijkl; "+strings.Repeat("var x -1000 .. 1000 = 1000; ", 4)+"or a { enter "+eight+"; exit x:="+sum+"; "+strings.Repeat("on a [(in(a))]; ", 16)+strings.Repeat("leaf b{} ", 59)+"} }",
		"chart abcdefghijkl {\n  event a, b, c, d, e, f, g, abcdefghijkl;\n"+strings.Repeat("  var x -1000 .. 1000 = 1000;\n", 4)+"  or a {\n    enter "+eight+";\n    exit x := "+sum+";\n"+strings.Repeat("    on a [in(a)];\n", 16)+strings.Repeat("    leaf b;\n", 59)+"  }\n}\n")
	open, shut := "", ""
	for deep := range 11 {
		blanks := strings.Repeat("  ", deep+1)
		open, shut = open+blanks+"or a {\n", blanks+"}\n"+shut
	}
	checkForm(t, "chart c { "+strings.Repeat("or a { ", 11)+"leaf b { on abcdefghijkl; } "+strings.Repeat("} ", 12), "chart c {\n"+open+strings.Repeat("  ", 12)+"leaf b {\n"+strings.Repeat("  ", 13)+"on abcdefghijkl;\n"+strings.Repeat("  ", 12)+"}\n"+shut+"}\n")
}

// Fm1, Fm2: texts of just as many tokens as may be, and of more.
func TestTokens(t *testing.T) {
	for many := 3980; many <= 4020; many++ {
		c := charts.Long(t, many)
		s := strings.TrimSpace(charts.Written(c, charts.Style{}))
		if got := reading.Count(t, strings.ReplaceAll(s, ";", ";\n")); got != many {
			t.Fatalf("the test's own text has %d tokens, not %d", got, many)
		}
		want, f := print.Put(c)
		if many <= 4000 {
			if checkForm(t, s, want); f != api.OK || reading.Count(t, want) != many {
				t.Errorf("the form of %d tokens has %d", many, reading.Count(t, want))
			}
			continue
		}
		if got, _, e := format.Of(s); got != "" || e != api.ErrFull || checkText(t, s) != api.ErrFull {
			t.Errorf("Of a text of %d tokens: error %d, %d bytes", many, e, len(got))
		}
	}
	// Most of them are brackets that the form does not have.
	most := "chart c { leaf a { on b [" + strings.Repeat("(", 1993) + "x" + strings.Repeat(")", 1993) + "]; } }"
	if many := reading.Count(t, most); many != 4000 {
		t.Fatalf("the test's own text has %d tokens", many)
	}
	checkForm(t, most, "chart c {\n  leaf a {\n    on b [x];\n  }\n}\n")
	checkFaultAt(t, most+" @;", api.ErrFull)
	checkFaultAt(t, most+"\n@$", api.ErrText)
	checkFaultAt(t, "@"+strings.Repeat(";", 4000), api.ErrText)
	checkFaultAt(t, strings.Repeat(";", 4000)+"@;", api.ErrFull)
}

// Fm1, Fm2: texts of just as many bytes as may be, and of more.
func TestBytes(t *testing.T) {
	for _, s := range []string{"chart c { leaf a; }", charts.Door, door} {
		want, _, _ := format.Of(s)
		room := 1<<16 - len(s)
		for _, more := range []string{strings.Repeat(" ", room), strings.Repeat("\n", room), "#" + strings.Repeat("}", room-1), strings.Repeat("#\n", room/2) + strings.Repeat("\t", room%2)} {
			checkForm(t, s+more, want)
			checkForm(t, s+more[:room-1], want)
			checkFault(t, s+more+" ", api.Pos{Line: 1, Col: 1}, api.ErrLong)
			checkFault(t, s+more+"\n$", api.Pos{Line: 1, Col: 1}, api.ErrLong)
		}
		blanks := strings.Repeat("\n", room)
		checkForm(t, blanks+s, want)
		checkForm(t, strings.Replace(s, "{", "{"+blanks, 1), want)
		checkFault(t, " "+blanks+s, api.Pos{Line: 1, Col: 1}, api.ErrLong)
	}
	checkFaultAt(t, strings.Repeat(" ", 1<<16)+"@", api.ErrText)
	checkFault(t, strings.Repeat(" ", 1<<16+1), api.Pos{Line: 1, Col: 1}, api.ErrLong)
	// A form that is as long as a form gets, or about so, of a text that is as short as may be.
	want, e := print.Put(charts.Longest())
	s := reading.Apart(reading.Tokens(t, want), reading.Bare)
	if e != api.OK || len(want) < 50000 || len(s) > 30000 {
		t.Errorf("the test's own chart has texts of %d and %d bytes", len(want), len(s))
	}
	checkForm(t, s, want)
}

// Fm1: Is, of what is a form but for one byte, or one more, or one fewer.
func TestIs(t *testing.T) {
	rich, _ := print.Put(charts.Rich(t))
	told := map[api.Errno]int{}
	others := 0
	for _, form := range []string{"chart c {\n  leaf a;\n}\n", door, rich} {
		if !format.Is(form) {
			t.Errorf("Is(%q): false", form)
		}
		for at := range len(form) + 1 {
			// What stands between tokens makes it no form, nor does what may not stand there.
			for _, more := range []string{" ", "\n", "\t", "\r", "#", "# x\n", "\x00", "$", "\xff", "é"} {
				if s := form[:at] + more + form[at:]; format.Is(s) {
					t.Errorf("Is(%q): true", s)
				}
			}
			if at == len(form) {
				continue
			}
			for _, other := range []string{"", form[at:at+1] + form[at:at+1], " ", "\n", "a", "b", "0", "1", ";", ",", "{", "}", "(", ")", "-"} {
				s := form[:at] + other + form[at+1:]
				told[checkText(t, s)]++
				if s != form && format.Is(s) {
					others++
				}
			}
		}
	}
	// Some are forms of other charts: of other names and numbers.
	if told[api.OK] < 1000 || told[api.ErrText] < 1000 || others < 100 {
		t.Errorf("so many told: %v, %d other forms", told, others)
	}
	for _, c := range []struct {
		s    string
		want bool
	}{
		{"", false}, {"\n", false}, {"x", false}, {"{", false}, {"chart c {\n  leaf a;\n}", false}, {"chart c {\n  leaf a;\n}\n\n", false}, {"chart c {\r\n  leaf a;\r\n}\r\n", false}, {"chart c {\n\tleaf a;\n}\n", false}, {"chart c {\n  leaf a {\n  }\n}\n", false}, {"chart c {\n  leaf or;\n}\n", false},
		{"chart c {\n  leaf a {\n    auto [not x];\n  }\n}\n", true}, {"chart c {\n  leaf a {\n    auto [notx];\n  }\n}\n", true}, {"chart c {\n  leaf a {\n    auto [(x)];\n  }\n}\n", false}, {"chart c {\n  leaf a {\n    auto [a - b - c];\n  }\n}\n", true}, {"chart c {\n  leaf a {\n    auto [a - (b - c)];\n  }\n}\n", true}, {"chart c {\n  leaf a {\n    auto [(a - b) - c];\n  }\n}\n", false},
		{"chart c {\n  var x 0 .. 0 = 0;\n  leaf a;\n}\n", true}, {"chart c {\n  var x -0 .. 0 = 0;\n  leaf a;\n}\n", false}, {"chart c {\n  var x 00 .. 0 = 0;\n  leaf a;\n}\n", false}, {"chart c {\n  event a,b;\n  leaf a;\n}\n", false}, {"chart c {\n  event a, b;\n  leaf a;\n}\n", true},
	} {
		if got := format.Is(c.s); got != c.want {
			t.Errorf("Is(%q): %t", c.s, got)
		}
		checkText(t, c.s)
	}
}

// Fm1: Of and Is of charts' texts cut off anywhere, from either side: the fault is layer 11's.
func TestCutOff(t *testing.T) {
	told := map[api.Errno]int{}
	for at, c := range charts.Combinations(t) {
		if at%97 > 0 {
			continue
		}
		s := charts.Written(c, charts.Style{Braces: at%2 == 0})
		for size := range len(s) {
			told[checkText(t, s[:size])]++
			checkText(t, s[size:])
		}
	}
	if told[api.ErrText] < 500 || told[api.OK] > 0 {
		t.Errorf("so many told: %v", told)
	}
}

// checkWritten: a chart's text has the form that layer 12 tells, in whatever style it is written, and however it is set apart; texts that are too long are passed over.
func checkWritten(t *testing.T, c api.Chart, style charts.Style, ways []reading.Between) int {
	t.Helper()
	want, e := print.Put(c)
	s := charts.Written(c, style)
	l, _, f := scan.Tokens(s)
	if e != api.OK || f != api.OK {
		return 0
	}
	checkForm(t, s, want)
	for _, way := range ways {
		checkForm(t, reading.Apart(l, way), want)
	}
	return 1
}

// Fm1, Fm2: a state's every combination of what may stand within it, in all styles, and set apart in all ways.
func TestCombinations(t *testing.T) {
	for _, c := range charts.Combinations(t) {
		for _, style := range charts.Styles() {
			if checkWritten(t, c, style, reading.Ways()) == 0 {
				t.Errorf("the text of %v is too long", c)
			}
		}
	}
}

// Fm1, Fm2: charts of all kinds of things.
func TestSome(t *testing.T) {
	styles, ways := charts.Styles(), reading.Ways()
	checked := 0
	for seed := range 1000 {
		way := ways[seed%len(ways)]
		checked += checkWritten(t, charts.Some(seed), styles[seed/len(ways)%len(styles)], []reading.Between{way})
	}
	if checked < 800 {
		t.Errorf("just %d charts", checked)
	}
}

// P1, R4: great inputs end, without a panic; a second answer is the first one.
func TestGreat(t *testing.T) {
	for _, s := range []string{"", "(", "chart c {", "or a {", " ", "#", "a", "1", "\xff", charts.Door, door} {
		for _, many := range []int{1, 1 << 10, 1 << 20} {
			great := strings.Repeat(s, many)
			first, at, e := format.Of(great)
			is := format.Is(great)
			checkText(t, great)
			if again, place, f := format.Of(great); again != first || place != at || f != e || format.Is(great) != is {
				t.Errorf("Of a text of %d bytes: error %d at %v, a second time error %d at %v", len(great), e, at, f, place)
			}
		}
	}
}
