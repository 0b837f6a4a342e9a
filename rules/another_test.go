package rules_test

import (
	"cmp"
	"math"
	"slices"
	"testing"

	"semblance/api"
	"semblance/charts"
	"semblance/reading"
	"semblance/rules"
)

// Ru1: as the other reading, of the sound chart with each one of its tokens turned to each other one, or left out, where that is a chart.
func TestTurned(t *testing.T) {
	all, broken := charts.Turned(t, "chart c { "+charts.Sound+" }"), make(map[int]int)
	for _, c := range all {
		want := charts.Flaws(c)
		check(t, c, want)
		for _, one := range want {
			broken[one.Rule]++
		}
	}
	for rule := api.RuleEvent; rule < api.Rules; rule++ {
		if broken[rule] < 2 {
			t.Errorf("of %d charts just %d break rule %d", len(all), broken[rule], rule)
		}
	}
}

// Ru1: as the other reading, of charts of all kinds.
func TestMany(t *testing.T) {
	all := append(charts.Combinations(t), charts.DoorChart(), charts.Rich(t), charts.Longest(), charts.Long(t, 4000))
	for seed := range 2000 {
		all = append(all, charts.Some(seed), charts.Good(seed))
	}
	for _, c := range all {
		check(t, c, charts.Flaws(c))
	}
}

// Ru1: RuleKids, as the other reading, of all small lists of states, with each of the kinds that a state may be of there.
func TestShapes(t *testing.T) {
	for many := 1; many <= 5; many++ {
		for _, parents := range charts.Shapes(many) {
			reading.Every(many, []int{api.KdLeaf, api.KdOr, api.KdAnd}, func(kinds []int) bool {
				if len(kinds) < many {
					// A leaf has none below.
					at := len(kinds) - 1
					return at < 0 || kinds[at] != api.KdLeaf || parents[at+1] != at
				}
				c := api.Chart{Name: "c"}
				for at, kind := range kinds {
					c.States = append(c.States, api.State{Name: "abcde"[at : at+1], Kind: kind, Parent: parents[at]})
				}
				check(t, c, charts.Flaws(c))
				return true
			})
		}
	}
}

// Ru1, R2, P1: of charts that may not be told there is no panic; what is told rises, is of the rule that was asked about, and of what there is.
func TestOdd(t *testing.T) {
	for _, c := range charts.Odd(t) {
		for _, rule := range asked() {
			got := rules.Broken(c, rule)
			for at, one := range got {
				if one.Rule != rule || one.Item < 0 || one.Part < 0 || one.Item >= max(len(c.Events), len(c.Vars), len(c.States)) {
					t.Errorf("Broken(%v, %d): %v", c, rule, got)
				}
				if at > 0 && cmp.Or(cmp.Compare(got[at-1].Item, one.Item), cmp.Compare(got[at-1].Part, one.Part)) >= 0 {
					t.Errorf("Broken(%v, %d): %v does not rise", c, rule, got)
				}
			}
			if rules.Kept(c, rule) != (len(got) == 0) {
				t.Errorf("Kept(%v, %d): not as Broken, %v", c, rule, got)
			}
		}
	}
}

// Ru1: a range whose Hi less Lo is no int is too wide, and one of which Lo is far above Hi is none.
func TestRangeBeyondInts(t *testing.T) {
	for _, v := range []api.Var{
		{Lo: math.MinInt, Hi: math.MaxInt}, {Lo: math.MaxInt, Hi: math.MinInt}, {Lo: math.MinInt, Hi: 0}, {Lo: -1, Hi: math.MaxInt}, {Lo: 0, Hi: math.MaxInt}, {Lo: math.MinInt, Hi: math.MaxInt - 10}, {Lo: math.MaxInt, Hi: math.MinInt + 5}, {Lo: math.MinInt, Hi: math.MinInt + 64, Init: math.MinInt}, {Lo: math.MaxInt - 64, Hi: math.MaxInt, Init: math.MaxInt},
	} {
		c := api.Chart{Vars: []api.Var{{}, v}}
		if got := rules.Broken(c, api.RuleRange); !slices.Equal(got, []api.Flaw{flaw(api.RuleRange, 1, 0)}) {
			t.Errorf("Broken of %v: %v", v, got)
		}
	}
	for _, v := range []api.Var{{Lo: math.MinInt, Hi: math.MinInt + 63, Init: math.MinInt}, {Lo: math.MaxInt - 63, Hi: math.MaxInt, Init: math.MaxInt}} {
		if !rules.Kept(api.Chart{Vars: []api.Var{v}}, api.RuleRange) {
			t.Errorf("Kept of %v: false", v)
		}
	}
}

// R5: no list and an empty one are the same, wherever they stand.
func TestEmptyLists(t *testing.T) {
	c := charts.DoorChart()
	for at := range c.States {
		s := &c.States[at]
		s.Enter, s.Exit = []api.Act{}, []api.Act{}
		if s.Trans == nil {
			s.Trans = []api.Trans{}
		}
		for k := range s.Trans {
			if s.Trans[k].Guard == nil {
				s.Trans[k].Guard, s.Trans[k].Acts = []api.Term{}, []api.Act{}
			}
		}
	}
	check(t, c, nil)
	c = charts.DoorChart()
	c.Events, c.Vars = []string{}, []api.Var{}
	check(t, c, []api.Flaw{flaw(api.RuleOn, 1, 0), flaw(api.RuleOn, 2, 0), flaw(api.RuleGuard, 2, 0), flaw(api.RuleActs, 2, 0)})
	c.Events, c.Vars = nil, nil
	check(t, c, []api.Flaw{flaw(api.RuleOn, 1, 0), flaw(api.RuleOn, 2, 0), flaw(api.RuleGuard, 2, 0), flaw(api.RuleActs, 2, 0)})
}

// R3, R4: what is handed in stays as it is, also behind the end of its lists; what is told is the same again, and in new memory.
func TestHandedIn(t *testing.T) {
	all := append(charts.Odd(t), charts.DoorChart(), charts.Rich(t))
	for seed := range 100 {
		all = append(all, charts.Some(seed))
	}
	for _, was := range all {
		c := charts.Roomy(was)
		for _, rule := range asked() {
			first := rules.Broken(c, rule)
			kept := slices.Clone(first)
			rules.Kept(c, rule)
			again := rules.Broken(c, rule)
			if !slices.Equal(again, first) {
				t.Errorf("Broken(%v, %d): %v, then %v", was, rule, first, again)
			}
			for at := range again {
				again[at] = flaw(-1, -1, -1)
			}
			if !slices.Equal(first, kept) || !slices.Equal(rules.Broken(c, rule), kept) {
				t.Errorf("Broken(%v, %d): two answers share memory", was, rule)
			}
		}
		if !charts.Same(charts.Behind(c), charts.Behind(charts.Roomy(was))) {
			t.Errorf("what was handed in, %v, is now %v", was, c)
		}
	}
}

// P1: great charts, which may not be told: all calls end.
func TestGreat(t *testing.T) {
	const many = 1 << 17
	x := api.Term{Op: api.TmNot}
	guard := append(slices.Repeat([]api.Term{x}, many), api.Term{Op: api.TmTrue})
	c := api.Chart{Name: "c", Events: make([]string, many), Vars: make([]api.Var, many), States: make([]api.State, many)}
	for at := range many {
		c.States[at] = api.State{Kind: api.KdOr, Parent: at - 1, Trans: []api.Trans{{Event: "a", Target: "b"}}}
	}
	c.States[many-1].Trans[0].Guard = guard
	c.States[many-1].Enter = make([]api.Act, many)
	c.States[many-1].Exit = []api.Act{{Expr: guard}}
	for rule, want := range map[int]int{
		api.RuleEvent: many - 1, api.RuleVar: many - 1, api.RuleRange: 0, api.RuleName: many - 1, api.RuleOn: many, api.RuleTarget: many, api.RuleGuard: 1, api.RuleActs: 0, api.RuleEdge: 2,
	} {
		if got := len(rules.Broken(c, rule)); got != want || rules.Kept(c, rule) != (want == 0) {
			t.Errorf("Broken of a great chart by %d: %d flaws, not %d", rule, got, want)
		}
	}
	rules.Broken(c, api.RuleKids)
}
