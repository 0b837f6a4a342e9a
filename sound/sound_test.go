package sound_test

import (
	"math"
	"slices"
	"strconv"
	"strings"
	"testing"

	"semblance/api"
	"semblance/charts"
	"semblance/print"
	"semblance/rules"
	"semblance/sound"
)

// checkTold holds the lines of the flaws of a chart that may be told, and all that checkFlaws does, against what they must be.
func checkTold(t *testing.T, c api.Chart, want string) {
	t.Helper()
	flaws := charts.FlawsOf(t, want)
	checkFlaws(t, c, flaws)
	var lines []string
	if want != "" {
		lines = strings.Split(want, ", ")
	}
	if got := sound.Lines(flaws); !slices.Equal(got, lines) {
		t.Errorf("Lines(%v): %q, not %q", flaws, got, lines)
	}
}

// checkFlaws holds the flaws of a chart that may be told, and whether it is sound, against what they must be.
func checkFlaws(t *testing.T, c api.Chart, want []api.Flaw) {
	t.Helper()
	if got, e := sound.Of(c); !slices.Equal(got, want) || e != api.OK {
		t.Errorf("Of(%v): %v, error %d, not %v", c, got, e, want)
	}
	if got := sound.Is(c); got != (len(want) == 0) {
		t.Errorf("Is(%v): %t", c, got)
	}
	checkOrders(t, c)
}

// checkNone: a chart may not be told, and so is not sound, and has no flaws.
func checkNone(t *testing.T, c api.Chart) {
	t.Helper()
	if print.Check(c) != api.ErrArg {
		t.Errorf("the test's own chart %v may be told", c)
	}
	if got, e := sound.Of(c); len(got) != 0 || e != api.ErrArg {
		t.Errorf("Of(%v): %v, error %d", c, got, e)
	}
	if sound.Is(c) {
		t.Errorf("Is(%v): true", c)
	}
	checkOrders(t, c)
}

// orders are the rules in several orders: each one first, each one last, turned round, and set apart.
func orders() [][]int {
	var rising []int
	for rule := api.RuleEvent; rule < api.Rules; rule++ {
		rising = append(rising, rule)
	}
	falling := slices.Clone(rising)
	slices.Reverse(falling)
	all := [][]int{{8, 3, 10, 1, 6, 5, 2, 9, 4, 7}, {2, 4, 6, 8, 10, 1, 3, 5, 7, 9}}
	for at := range rising {
		all = append(all, slices.Concat(rising[at:], rising[:at]), slices.Concat(falling[at:], falling[:at]))
	}
	return all
}

// checkOrders: a chart is sound just if it may be told and keeps to all rules, in whichever order they are asked about.
func checkOrders(t *testing.T, c api.Chart) {
	t.Helper()
	is, may := sound.Is(c), print.Check(c) == api.OK
	for _, order := range orders() {
		kept, flaws := may, []api.Flaw(nil)
		for _, rule := range order {
			kept = kept && rules.Kept(c, rule)
			flaws = append(flaws, rules.Broken(c, rule)...)
		}
		if is != kept || may && is != (len(flaws) == 0) {
			t.Errorf("Is(%v): %t, but by the rules in the order %v %t, with the flaws %v", c, is, order, kept, flaws)
		}
	}
}

// table is texts between a chart's braces, and its flaws' lines.
type table []struct{ Text, Lines string }

// check holds each chart's flaws against their lines.
func (l table) check(t *testing.T) {
	t.Helper()
	for _, c := range l {
		checkTold(t, charts.Within(t, c.Text), c.Lines)
	}
}

// So1, So2: the chapter's example, the document's, and charts of which no rule is broken.
func TestExamples(t *testing.T) {
	table{{"or a;", "kids 0 0"}, {charts.Sound, ""}, {"leaf a;", ""}, {"or a { leaf b; }", ""}, {"and a { leaf b; leaf d; }", ""}, {"event a; var a 0 .. 0 = 0; leaf a { on a / any a -> a; }", ""}}.check(t)
	c := charts.DoorChart()
	checkTold(t, c, "")
	c.Events = []string{"go", "go"}
	checkTold(t, c, "event 1 0")
}

// So1, So2: of each rule charts that break just that one, once, and several times.
func TestEachRule(t *testing.T) {
	table(charts.EachRule()).check(t)
}

// So1, So2: charts that break several rules, some several times.
func TestSeveralRules(t *testing.T) {
	table(charts.SeveralRules()).check(t)
}

// breaking is a chart that breaks just those rules whose bits are set, the first rule's lowest, each once; and its flaws' lines.
func breaking(t *testing.T, which int) (c api.Chart, want string) {
	t.Helper()
	text := "event e, EVENT; var x 0 .. 1 = RANGE; var y 0 .. 0 = 0; var VAR 0 .. 0 = 0; or top { enter EDGE; exit x := 0; on ON; auto -> TARGET; auto [GUARD]; auto / any ACTS; KIDS a; leaf NAME; }"
	var lines []string
	for at, rule := range []struct{ word, kept, broken, line string }{
		{"EVENT", "f", "e", "event 1 0"}, {"VAR", "z", "y", "var 2 0"}, {"RANGE", "1", "2", "range 0 0"}, {"NAME", "b", "a", "name 2 0"}, {"KIDS", "leaf", "or", "kids 1 0"},
		{"ON", "e", "g", "on 0 0"}, {"TARGET", "a", "d", "target 0 1"}, {"GUARD", "true", "1", "guard 0 2"}, {"ACTS", "x", "w", "acts 0 3"}, {"EDGE", "x := 1", "any x", "edge 0 0"},
	} {
		if which>>at&1 == 0 {
			text = strings.Replace(text, rule.word, rule.kept, 1)
			continue
		}
		text = strings.Replace(text, rule.word, rule.broken, 1)
		lines = append(lines, rule.line)
	}
	return charts.Within(t, text), strings.Join(lines, ", ")
}

// So1, So2: charts that break any of the rules, all of them and none too: the first rule's flaws first.
func TestAnyOfTheRules(t *testing.T) {
	for which := range 1 << 10 {
		c, want := breaking(t, which)
		checkTold(t, c, want)
	}
}

// turns are what turns one thing of a chart.
type turns []func(c *api.Chart)

// check does each of the turns to charts that are sound, and to such as are not; what comes of that may be told, or it may not.
func (l turns) check(t *testing.T, may bool) {
	t.Helper()
	bases := []api.Chart{charts.Within(t, charts.Sound)}
	for _, which := range []int{0, 1, 2, 4, 8, 16, 32, 64, 128, 256, 512, 1023} {
		c, _ := breaking(t, which)
		bases = append(bases, c)
	}
	for _, base := range bases {
		for _, turn := range l {
			c := charts.Roomy(base)
			if turn(&c); may {
				checkFlaws(t, c, charts.Flaws(c))
			} else {
				checkNone(t, c)
			}
		}
	}
}

// many are so many things, one behind the other.
func many[T any](of int, one func(at int) T) []T {
	var l []T
	for at := range of {
		l = append(l, one(at))
	}
	return l
}

// events gives a chart so many events.
func events(of int) func(c *api.Chart) {
	return func(c *api.Chart) {
		c.Events = many(of, func(at int) string { return "abcdefghijkl"[at : at+1] })
	}
}

// vars gives a chart so many variables.
func vars(of int) func(c *api.Chart) {
	return func(c *api.Chart) {
		c.Vars = many(of, func(at int) api.Var { return api.Var{Name: "xyzabc"[at : at+1], Hi: at, Init: at} })
	}
}

// variable turns the variable ahead of a chart's last one.
func variable(v api.Var) func(c *api.Chart) {
	return func(c *api.Chart) { c.Vars[len(c.Vars)-2] = v }
}

// states makes a chart's states so many, by leaves right below the first one.
func states(of int) func(c *api.Chart) {
	return func(c *api.Chart) {
		for len(c.States) < of {
			c.States = append(c.States, charts.Leaf("s"+strconv.Itoa(len(c.States)), 0))
		}
	}
}

// deep puts states behind, one within the other, the last one so deep.
func deep(to int) func(c *api.Chart) {
	return func(c *api.Chart) {
		parent := 0
		for at := 2; at <= to; at++ {
			c.States = append(c.States, charts.Or("s"+strconv.Itoa(at), parent))
			parent = len(c.States) - 1
		}
		c.States[parent].Kind = api.KdLeaf
	}
}

// last turns a chart's last state.
func last(turn func(s *api.State)) func(c *api.Chart) {
	return func(c *api.Chart) { turn(&c.States[len(c.States)-1]) }
}

// own turns a transition of a chart's first state.
func own(turn func(t *api.Trans)) func(c *api.Chart) {
	return func(c *api.Chart) { turn(&c.States[0].Trans[1]) }
}

// guard gives a transition a guard.
func guard(l ...api.Term) func(c *api.Chart) {
	return own(func(t *api.Trans) { t.Guard = l })
}

// nots are so many of TmNot, and true behind them.
func nots(of int) []api.Term {
	return append(slices.Repeat([]api.Term{{Op: api.TmNot}}, of), api.Term{Op: api.TmTrue})
}

// wide is an expression of so many terms of a kind, as shallow as may be: an odd number.
func wide(of int) []api.Term {
	return slices.Concat([]api.Term{{Op: api.TmLe}}, charts.Wide(of/4), charts.Wide((of+1)/2-of/4))
}

// acts are so many acts.
func acts(of int) []api.Act {
	return slices.Repeat([]api.Act{{Name: "x", Expr: []api.Term{{Op: api.TmVar, Name: "x"}}}}, of)
}

// So1, So2: charts that are as great as may be: they are sound, or not, by their flaws.
func TestJustTold(t *testing.T) {
	turns{
		func(*api.Chart) {}, func(c *api.Chart) { c.Name = "abcdefghijkl" }, func(c *api.Chart) { c.Name = "a" },
		events(0), events(8), vars(0), vars(4), states(60), deep(12),
		variable(api.Var{Name: "v", Lo: -1000, Hi: -1000, Init: -1000}), variable(api.Var{Name: "v", Lo: 1000, Hi: 1000, Init: 1000}), variable(api.Var{Name: "v", Lo: 1000, Hi: -1000, Init: 0}), variable(api.Var{Name: "v", Lo: -1000, Hi: 1000, Init: 1000}), variable(api.Var{Name: "abcdefghijkl"}),
		last(func(s *api.State) { s.Name = "abcdefghijkl" }), last(func(s *api.State) { s.Enter = acts(8) }), last(func(s *api.State) { s.Exit = acts(8) }), last(func(s *api.State) { s.Trans = make([]api.Trans, 16) }),
		own(func(t *api.Trans) { t.Event = "abcdefghijkl" }), own(func(t *api.Trans) { t.Target = "abcdefghijkl" }), own(func(t *api.Trans) { t.Event, t.Target = "", "" }), own(func(t *api.Trans) { t.Acts = acts(8) }),
		guard(), guard(nots(11)...), guard(wide(39)...), guard(append([]api.Term{{Op: api.TmNot}}, wide(39)...)...), guard(api.Term{Op: api.TmNum, N: api.Big}),
	}.check(t, true)
}

// So1, So2: charts that may not be told, in each way: no flaws, and not sound, whatever rules they break besides.
func TestNotTold(t *testing.T) {
	number := api.Term{Op: api.TmNum}
	l := turns{
		func(c *api.Chart) { *c = api.Chart{} }, func(c *api.Chart) { *c = api.Chart{Name: "c"} },
		func(c *api.Chart) { c.States = nil }, func(c *api.Chart) { c.States = []api.State{} },
		events(9), vars(5), states(61), deep(13),
		last(func(s *api.State) { s.Kind = 0 }), last(func(s *api.State) { s.Kind = 4 }), last(func(s *api.State) { s.Kind = math.MinInt }), last(func(s *api.State) { s.Parent = -1 }), last(func(s *api.State) { s.Parent = -2 }), last(func(s *api.State) { s.Parent = 60 }), last(func(s *api.State) { s.Parent = math.MaxInt }),
		func(c *api.Chart) { c.States[0].Parent = 0 }, func(c *api.Chart) { c.States[0].Kind = api.KdLeaf },
		last(func(s *api.State) { s.Enter = acts(9) }), last(func(s *api.State) { s.Exit = acts(9) }), last(func(s *api.State) { s.Trans = make([]api.Trans, 17) }), own(func(t *api.Trans) { t.Acts = acts(9) }),
		guard(nots(12)...), guard(nots(39)...), guard(nots(40)...), guard(wide(41)...), guard(number, number), guard(api.Term{Op: api.TmNot}), guard(api.Term{}), guard(api.Term{Op: 21}), guard(api.Term{Op: math.MaxInt}), guard(api.Term{Op: math.MinInt}), guard(api.Term{Op: api.TmNum, N: -1}), guard(api.Term{Op: api.TmNum, N: api.Big + 1}), guard(api.Term{Op: api.TmTrue, N: 1}), guard(api.Term{Op: api.TmNum, Name: "x"}),
	}
	for _, n := range []int{1001, -1001, math.MaxInt, math.MinInt} {
		l = append(l, variable(api.Var{Name: "v", Lo: n}), variable(api.Var{Name: "v", Hi: n}), variable(api.Var{Name: "v", Init: n}))
	}
	for _, name := range []string{"", "or", "true", "abcdefghijklm", "A", "1", "a ", "\xff", "?"} {
		// No event, and no target, may be.
		if name != "" {
			l = append(l, own(func(t *api.Trans) { t.Event = name }), own(func(t *api.Trans) { t.Target = name }))
		}
		l = append(l, func(c *api.Chart) { c.Name = name }, func(c *api.Chart) { c.Events[len(c.Events)-1] = name }, variable(api.Var{Name: name}), last(func(s *api.State) { s.Name = name }), guard(api.Term{Op: api.TmIn, Name: name}))
	}
	for _, a := range []api.Act{{}, {Name: "x"}, {Any: true}, {Name: "or", Any: true}, {Name: "x", Any: true, Expr: []api.Term{number}}, {Name: "x", Expr: []api.Term{number, number}}, {Name: "x", Expr: nots(12)}} {
		one := append(acts(1), a)
		l = append(l, last(func(s *api.State) { s.Enter = one }), last(func(s *api.State) { s.Exit = one }), own(func(t *api.Trans) { t.Acts = one }))
	}
	l.check(t, false)
	for _, c := range charts.Odd(t) {
		checkNone(t, c)
	}
}

// ints are ints, at the edges too.
func ints() []int {
	l := []int{math.MinInt, math.MinInt + 1, math.MaxInt - 1, math.MaxInt, -1 << 32, 1 << 32, 1<<32 + 1, -api.Big - 1, api.Big + 1, 99, -99}
	for n := -20; n <= 20; n++ {
		l = append(l, n)
	}
	return l
}

// So1: each rule's word, and of what is none the empty text.
func TestWord(t *testing.T) {
	for _, rule := range ints() {
		want := ""
		if rule >= 1 && rule <= 10 {
			want = charts.RuleWords()[rule-1]
		}
		if got := sound.Word(rule); got != want {
			t.Errorf("Word(%d): %q, not %q", rule, got, want)
		}
	}
	if sound.Word(api.RuleEvent) != "event" || sound.Word(api.RuleEdge) != "edge" || sound.Word(api.Rules) != "" {
		t.Error("Word of the rules by their names")
	}
}

// So1: flaws' lines, of any rules, Items and Parts, in their order.
func TestLines(t *testing.T) {
	for _, l := range [][]api.Flaw{nil, {}} {
		if got := sound.Lines(l); len(got) != 0 {
			t.Errorf("Lines of none: %q", got)
		}
	}
	var all []api.Flaw
	var want []string
	for _, rule := range ints() {
		word := "?"
		if rule >= 1 && rule <= 10 {
			word = charts.RuleWords()[rule-1]
		}
		for _, item := range ints() {
			for _, part := range ints() {
				all = append(all, api.Flaw{Rule: rule, Item: item, Part: part})
				want = append(want, word+" "+strconv.Itoa(item)+" "+strconv.Itoa(part))
			}
		}
	}
	if got := sound.Lines(all); !slices.Equal(got, want) {
		t.Error("Lines of flaws of all kinds")
	}
	for at, one := range all {
		if got := sound.Lines([]api.Flaw{one}); len(got) != 1 || got[0] != want[at] {
			t.Errorf("Lines of %v: %q, not %q", one, got, want[at])
		}
	}
	got := sound.Lines([]api.Flaw{{}, {Rule: 5, Item: math.MinInt, Part: math.MaxInt}, {Rule: 11, Item: 2, Part: -3}, {Rule: 5, Item: 1}, {Rule: 5, Item: 1}})
	if !slices.Equal(got, []string{"? 0 0", "kids -9223372036854775808 9223372036854775807", "? 2 -3", "kids 1 0", "kids 1 0"}) {
		t.Errorf("Lines of five: %q", got)
	}
}

// So1, So2: as another reading of the rules says, of charts of all kinds, and of sound ones with each token turned.
func TestMany(t *testing.T) {
	all := slices.Concat(charts.Combinations(t), charts.Turned(t, charts.Door), charts.Turned(t, "chart c { "+charts.Sound+" }"), []api.Chart{charts.Rich(t), charts.Longest(), charts.Long(t, 4000), charts.Long(t, 4001)})
	for seed := range 1000 {
		all = append(all, charts.Some(seed))
	}
	met := make(map[bool]int)
	for _, c := range all {
		flaws := charts.Flaws(c)
		checkFlaws(t, c, flaws)
		met[len(flaws) == 0]++
	}
	for seed := range 1000 {
		checkFlaws(t, charts.Good(seed), nil)
	}
	if met[true] < 100 || met[false] < 1000 {
		t.Errorf("so many sound: %v", met)
	}
}

// R3, R4, R5: what is handed in stays as it is, also behind the end of its lists; what is told is the same again, and in new memory; no list is as an empty one.
func TestHandedIn(t *testing.T) {
	all := append(charts.Odd(t), charts.Turned(t, charts.Door)...)
	for seed := range 200 {
		all = append(all, charts.Some(seed), charts.Good(seed))
	}
	for _, was := range all {
		// Here there is no list that is nil.
		c := charts.Roomy(was)
		first, fault := sound.Of(was)
		is := sound.Is(was)
		got, e := sound.Of(c)
		if !slices.Equal(got, first) || e != fault || sound.Is(c) != is {
			t.Errorf("Of(%v): %v, error %d, and once more %v, error %d", was, first, fault, got, e)
		}
		room := append(slices.Clip(got), api.Flaw{Rule: 99})
		handed := room[:len(got)]
		lines := sound.Lines(handed)
		kept := slices.Clone(lines)
		again := sound.Lines(handed)
		if !slices.Equal(again, lines) || !slices.Equal(room, append(slices.Clone(first), api.Flaw{Rule: 99})) {
			t.Errorf("Lines(%v): %q, then %q", room, lines, again)
		}
		clear(again)
		clear(room)
		clear(got)
		if other, _ := sound.Of(c); !slices.Equal(other, first) || !slices.Equal(lines, kept) || !slices.Equal(sound.Lines(first), kept) {
			t.Errorf("Of(%v): answers share memory", was)
		}
		if !charts.Same(charts.Behind(c), charts.Behind(charts.Roomy(was))) {
			t.Errorf("what was handed in, %v, is now %v", was, c)
		}
	}
}

// P1: great charts and lists end, without a panic.
func TestGreat(t *testing.T) {
	const many = 1 << 17
	c := charts.Rich(t)
	c.States = slices.Repeat(c.States, many)
	d := charts.Rich(t)
	d.States[2].Enter = make([]api.Act, many)
	d.States[2].Trans = slices.Repeat([]api.Trans{{Guard: slices.Repeat([]api.Term{{Op: api.TmNot}}, many)}}, many)
	f := charts.Rich(t)
	f.Events, f.Vars = make([]string, many), make([]api.Var, many)
	for _, one := range []api.Chart{c, d, f, {Name: strings.Repeat("a", many)}} {
		if got, e := sound.Of(one); got != nil || e != api.ErrArg || sound.Is(one) {
			t.Errorf("Of a great chart: %d flaws, error %d", len(got), e)
		}
	}
	if got := sound.Lines(make([]api.Flaw, many)); len(got) != many || got[many-1] != "? 0 0" {
		t.Errorf("Lines of many: %d", len(got))
	}
}
