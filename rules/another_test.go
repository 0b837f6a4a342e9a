package rules_test

import (
	"cmp"
	"math"
	"slices"
	"testing"

	"semblance/api"
	"semblance/charts"
	"semblance/reading"
	"semblance/rules"
	"semblance/syntax"
)

// told is another reading of the chapter: a chart gone through once, with each flaw put down as it is come to, sorted behind that.
type told struct {
	c     api.Chart
	flaws []api.Flaw
}

// flawsIn are all flaws of a chart, by rule, Item and Part.
func flawsIn(c api.Chart) []api.Flaw {
	b := &told{c: c}
	for at, v := range c.Vars {
		// Gone through from the first value to the last one, as far as there may be.
		size, met := 0, false
		for n := v.Lo; n <= v.Hi && size <= 64; n++ {
			size++
			met = met || n == v.Init
		}
		b.put(size > 64 || !met, api.RuleRange, at, 0)
		b.twin(api.RuleVar, at, func(k int) bool { return c.Vars[k].Name == v.Name })
	}
	for at, e := range c.Events {
		b.twin(api.RuleEvent, at, func(k int) bool { return c.Events[k] == e })
	}
	below := make(map[int]int)
	for at, s := range c.States {
		below[s.Parent]++
		b.twin(api.RuleName, at, func(k int) bool { return c.States[k].Name == s.Name })
		b.state(at, s)
	}
	for at, s := range c.States {
		b.put(s.Kind == api.KdOr && below[at] < 1 || s.Kind == api.KdAnd && below[at] < 2, api.RuleKids, at, 0)
	}
	slices.SortFunc(b.flaws, func(a, b api.Flaw) int {
		return cmp.Or(cmp.Compare(a.Rule, b.Rule), cmp.Compare(a.Item, b.Item), cmp.Compare(a.Part, b.Part))
	})
	return b.flaws
}

// put puts a flaw down, if it is one.
func (b *told) put(is bool, rule, item, part int) {
	if is {
		b.flaws = append(b.flaws, flaw(rule, item, part))
	}
}

// twin puts down that one ahead has the same name.
func (b *told) twin(rule, at int, same func(k int) bool) {
	for k := range at {
		if same(k) {
			b.put(true, rule, at, 0)
			return
		}
	}
}

// state puts down what its transitions, and what is done as it is entered and left, break.
func (b *told) state(at int, s api.State) {
	for part, l := range [][]api.Act{s.Enter, s.Exit} {
		b.put(!b.acts(l) || slices.ContainsFunc(l, func(a api.Act) bool { return a.Any }), api.RuleEdge, at, part)
	}
	for part, t := range s.Trans {
		b.put(t.Event != "" && !slices.Contains(b.c.Events, t.Event), api.RuleOn, at, part)
		b.put(t.Target != "" && !b.isState(t.Target), api.RuleTarget, at, part)
		b.put(len(t.Guard) > 0 && b.typeOf(t.Guard) != api.TyBool, api.RuleGuard, at, part)
		b.put(!b.acts(t.Acts), api.RuleActs, at, part)
	}
}

// isVar tells whether a name is a variable's.
func (b *told) isVar(s string) bool {
	return slices.ContainsFunc(b.c.Vars, func(v api.Var) bool { return v.Name == s })
}

// isState tells whether a name is a state's.
func (b *told) isState(s string) bool {
	return slices.ContainsFunc(b.c.States, func(one api.State) bool { return one.Name == s })
}

// acts tells whether acts are of the chart.
func (b *told) acts(l []api.Act) bool {
	for _, a := range l {
		if !b.isVar(a.Name) || !a.Any && b.typeOf(a.Expr) != api.TyInt {
			return false
		}
	}
	return true
}

// typeOf is the type of an expression of the chart; none, if it is not of it. Gone through from its end, with the types of what is not taken yet in a list.
func (b *told) typeOf(l []api.Term) int {
	var open []int
	for at := len(l) - 1; at >= 0; at-- {
		own, below := b.typeIn(l[at])
		if own == api.TyNone || len(open) < len(below) || !slices.Equal(open[:len(below)], below) {
			return api.TyNone
		}
		open = slices.Concat([]int{own}, open[len(below):])
	}
	if len(open) != 1 {
		return api.TyNone
	}
	return open[0]
}

// typeIn is the type of a term in the chart, and those which must be below it.
func (b *told) typeIn(one api.Term) (own int, below []int) {
	const number, truth = api.TyInt, api.TyBool
	switch one.Op {
	case api.TmNum:
		return number, nil
	case api.TmVar:
		if b.isVar(one.Name) {
			return number, nil
		}
	case api.TmIn:
		if b.isState(one.Name) {
			return truth, nil
		}
	case api.TmTrue, api.TmFalse:
		return truth, nil
	case api.TmNeg:
		return number, []int{number}
	case api.TmNot:
		return truth, []int{truth}
	case api.TmAdd, api.TmSub, api.TmMul, api.TmMin, api.TmMax:
		return number, []int{number, number}
	case api.TmAnd, api.TmOr:
		return truth, []int{truth, truth}
	default:
		return truth, []int{number, number}
	}
	return api.TyNone, nil
}

// Ru1: as the other reading, of the sound chart with each one of its tokens turned to each other one, or left out, where that is a chart.
func TestTurned(t *testing.T) {
	l := reading.Tokens(t, "chart c { "+sound+" }")
	words := []string{""}
	for _, one := range l {
		if !slices.Contains(words, one.Text) {
			words = append(words, one.Text)
		}
	}
	many, broken := 0, make(map[int]int)
	for at := range l {
		was := l[at].Text
		for _, word := range words {
			l[at].Text = word
			c, _, e := syntax.Parse(reading.Apart(l, func(int, string, string) string { return " " }))
			if e != api.OK {
				continue
			}
			want := flawsIn(c)
			check(t, c, want)
			many++
			for _, one := range want {
				broken[one.Rule]++
			}
		}
		l[at].Text = was
	}
	for rule := api.RuleEvent; rule < api.Rules; rule++ {
		if broken[rule] < 2 {
			t.Errorf("of %d charts just %d break rule %d", many, broken[rule], rule)
		}
	}
}

// Ru1: as the other reading, of charts of all kinds.
func TestMany(t *testing.T) {
	all := append(charts.Combinations(t), charts.DoorChart(), charts.Rich(t), charts.Longest(), charts.Long(t, 4000))
	for seed := range 2000 {
		all = append(all, charts.Some(seed))
	}
	for _, c := range all {
		check(t, c, flawsIn(c))
	}
}

// Ru1: RuleKids, as the other reading, of all small lists of states, with each of the kinds that a state may be of there.
func TestShapes(t *testing.T) {
	for many := 1; many <= 5; many++ {
		for _, parents := range charts.Shapes(many) {
			reading.Every(many, []int{api.KdLeaf, api.KdOr, api.KdAnd}, func(kinds []int) bool {
				if len(kinds) < many {
					// A leaf has none below.
					at := len(kinds) - 1
					return at < 0 || kinds[at] != api.KdLeaf || parents[at+1] != at
				}
				c := api.Chart{Name: "c"}
				for at, kind := range kinds {
					c.States = append(c.States, api.State{Name: "abcde"[at : at+1], Kind: kind, Parent: parents[at]})
				}
				check(t, c, flawsIn(c))
				return true
			})
		}
	}
}

// odd are charts that may not be told.
func odd(t *testing.T) []api.Chart {
	one := func(s api.State) api.Chart { return api.Chart{States: []api.State{s}} }
	own := func(t api.Trans) api.Chart { return one(api.State{Trans: []api.Trans{t}}) }
	long := slices.Repeat([]api.Term{{Op: api.TmNot}}, 60)
	all := []api.Chart{
		{}, {Events: []string{""}}, {Events: []string{"", "or", ""}}, {Vars: make([]api.Var, 6)}, {States: make([]api.State, 2)},
		one(api.State{Kind: 99}), one(api.State{Kind: -1, Parent: math.MinInt}), one(api.State{Kind: api.KdOr, Parent: 0}), one(api.State{Kind: api.KdAnd, Parent: math.MaxInt}),
		{States: []api.State{charts.Or("a", 1), charts.Or("b", 0)}}, {States: []api.State{charts.Leaf("a", -1), charts.And("b", 0), charts.Or("c", 1)}}, {States: charts.Nested([]int{1, 2, 3, 4, 5, 6, 7, 8, 9, 10, 11, 12, 13, 14})}, {States: slices.Repeat([]api.State{charts.And("a", 0)}, 70)},
		one(api.State{Enter: make([]api.Act, 1)}), one(api.State{Exit: make([]api.Act, 20)}), one(api.State{Enter: []api.Act{{Expr: long}}}),
		own(api.Trans{Event: "\xff"}), own(api.Trans{Guard: make([]api.Term, 1)}), own(api.Trans{Guard: long}), own(api.Trans{Guard: append(long, api.Term{Op: api.TmTrue})}), own(api.Trans{Guard: []api.Term{{Op: api.TmAdd}, {Op: api.TmNum}}}), own(api.Trans{Guard: []api.Term{{Op: math.MaxInt}}}), own(api.Trans{Guard: []api.Term{{Op: math.MinInt}}}), own(api.Trans{Acts: make([]api.Act, 1)}), own(api.Trans{Target: "or"}),
	}
	for _, v := range []api.Var{{Lo: math.MinInt, Hi: math.MaxInt}, {Lo: math.MaxInt, Hi: math.MinInt}, {Lo: math.MinInt, Hi: math.MinInt, Init: math.MinInt}, {Lo: -5, Hi: math.MaxInt, Init: -5}, {Lo: math.MinInt, Hi: 5, Init: 5}} {
		c := charts.Rich(t)
		c.Vars = append(c.Vars, v)
		all = append(all, c)
	}
	return all
}

// Ru1, R2, P1: of charts that may not be told there is no panic; what is told rises, is of the rule that was asked about, and of what there is.
func TestOdd(t *testing.T) {
	for _, c := range odd(t) {
		for _, rule := range asked() {
			got := rules.Broken(c, rule)
			for at, one := range got {
				if one.Rule != rule || one.Item < 0 || one.Part < 0 || one.Item >= max(len(c.Events), len(c.Vars), len(c.States)) {
					t.Errorf("Broken(%v, %d): %v", c, rule, got)
				}
				if at > 0 && cmp.Or(cmp.Compare(got[at-1].Item, one.Item), cmp.Compare(got[at-1].Part, one.Part)) >= 0 {
					t.Errorf("Broken(%v, %d): %v does not rise", c, rule, got)
				}
			}
			if rules.Kept(c, rule) != (len(got) == 0) {
				t.Errorf("Kept(%v, %d): not as Broken, %v", c, rule, got)
			}
		}
	}
}

// Ru1: a range whose Hi less Lo is no int is too wide, and one of which Lo is far above Hi is none.
func TestRangeBeyondInts(t *testing.T) {
	for _, v := range []api.Var{
		{Lo: math.MinInt, Hi: math.MaxInt}, {Lo: math.MaxInt, Hi: math.MinInt}, {Lo: math.MinInt, Hi: 0}, {Lo: -1, Hi: math.MaxInt}, {Lo: 0, Hi: math.MaxInt}, {Lo: math.MinInt, Hi: math.MaxInt - 10}, {Lo: math.MaxInt, Hi: math.MinInt + 5}, {Lo: math.MinInt, Hi: math.MinInt + 64, Init: math.MinInt}, {Lo: math.MaxInt - 64, Hi: math.MaxInt, Init: math.MaxInt},
	} {
		c := api.Chart{Vars: []api.Var{{}, v}}
		if got := rules.Broken(c, api.RuleRange); !slices.Equal(got, []api.Flaw{flaw(api.RuleRange, 1, 0)}) {
			t.Errorf("Broken of %v: %v", v, got)
		}
	}
	for _, v := range []api.Var{{Lo: math.MinInt, Hi: math.MinInt + 63, Init: math.MinInt}, {Lo: math.MaxInt - 63, Hi: math.MaxInt, Init: math.MaxInt}} {
		if !rules.Kept(api.Chart{Vars: []api.Var{v}}, api.RuleRange) {
			t.Errorf("Kept of %v: false", v)
		}
	}
}

// R5: no list and an empty one are the same, wherever they stand.
func TestEmptyLists(t *testing.T) {
	c := charts.DoorChart()
	for at := range c.States {
		s := &c.States[at]
		s.Enter, s.Exit = []api.Act{}, []api.Act{}
		if s.Trans == nil {
			s.Trans = []api.Trans{}
		}
		for k := range s.Trans {
			if s.Trans[k].Guard == nil {
				s.Trans[k].Guard, s.Trans[k].Acts = []api.Term{}, []api.Act{}
			}
		}
	}
	check(t, c, nil)
	c = charts.DoorChart()
	c.Events, c.Vars = []string{}, []api.Var{}
	check(t, c, []api.Flaw{flaw(api.RuleOn, 1, 0), flaw(api.RuleOn, 2, 0), flaw(api.RuleGuard, 2, 0), flaw(api.RuleActs, 2, 0)})
	c.Events, c.Vars = nil, nil
	check(t, c, []api.Flaw{flaw(api.RuleOn, 1, 0), flaw(api.RuleOn, 2, 0), flaw(api.RuleGuard, 2, 0), flaw(api.RuleActs, 2, 0)})
}

// R3, R4: what is handed in stays as it is, also behind the end of its lists; what is told is the same again, and in new memory.
func TestHandedIn(t *testing.T) {
	all := append(odd(t), charts.DoorChart(), charts.Rich(t))
	for seed := range 100 {
		all = append(all, charts.Some(seed))
	}
	for _, was := range all {
		c := charts.Roomy(was)
		for _, rule := range asked() {
			first := rules.Broken(c, rule)
			kept := slices.Clone(first)
			rules.Kept(c, rule)
			again := rules.Broken(c, rule)
			if !slices.Equal(again, first) {
				t.Errorf("Broken(%v, %d): %v, then %v", was, rule, first, again)
			}
			for at := range again {
				again[at] = flaw(-1, -1, -1)
			}
			if !slices.Equal(first, kept) || !slices.Equal(rules.Broken(c, rule), kept) {
				t.Errorf("Broken(%v, %d): two answers share memory", was, rule)
			}
		}
		if !charts.Same(charts.Behind(c), charts.Behind(charts.Roomy(was))) {
			t.Errorf("what was handed in, %v, is now %v", was, c)
		}
	}
}

// P1: great charts, which may not be told: all calls end.
func TestGreat(t *testing.T) {
	const many = 1 << 17
	x := api.Term{Op: api.TmNot}
	guard := append(slices.Repeat([]api.Term{x}, many), api.Term{Op: api.TmTrue})
	c := api.Chart{Name: "c", Events: make([]string, many), Vars: make([]api.Var, many), States: make([]api.State, many)}
	for at := range many {
		c.States[at] = api.State{Kind: api.KdOr, Parent: at - 1, Trans: []api.Trans{{Event: "a", Target: "b"}}}
	}
	c.States[many-1].Trans[0].Guard = guard
	c.States[many-1].Enter = make([]api.Act, many)
	c.States[many-1].Exit = []api.Act{{Expr: guard}}
	for rule, want := range map[int]int{
		api.RuleEvent: many - 1, api.RuleVar: many - 1, api.RuleRange: 0, api.RuleName: many - 1, api.RuleOn: many, api.RuleTarget: many, api.RuleGuard: 1, api.RuleActs: 0, api.RuleEdge: 2,
	} {
		if got := len(rules.Broken(c, rule)); got != want || rules.Kept(c, rule) != (want == 0) {
			t.Errorf("Broken of a great chart by %d: %d flaws, not %d", rule, got, want)
		}
	}
	rules.Broken(c, api.RuleKids)
}
