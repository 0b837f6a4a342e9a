package charts

import (
	"math"
	"slices"

	"semblance/api"
	"semblance/reading"
)

// Odd are charts that may not be told.
func Odd(t reading.Test) []api.Chart {
	t.Helper()
	one := func(s api.State) api.Chart { return api.Chart{States: []api.State{s}} }
	own := func(t api.Trans) api.Chart { return one(api.State{Trans: []api.Trans{t}}) }
	long := slices.Repeat([]api.Term{{Op: api.TmNot}}, 60)
	all := []api.Chart{
		{}, {Events: []string{""}}, {Events: []string{"", "or", ""}}, {Vars: make([]api.Var, 6)}, {States: make([]api.State, 2)},
		one(api.State{Kind: 99}), one(api.State{Kind: -1, Parent: math.MinInt}), one(api.State{Kind: api.KdOr, Parent: 0}), one(api.State{Kind: api.KdAnd, Parent: math.MaxInt}),
		{States: []api.State{Or("a", 1), Or("b", 0)}}, {States: []api.State{Leaf("a", -1), And("b", 0), Or("c", 1)}}, {States: Nested([]int{1, 2, 3, 4, 5, 6, 7, 8, 9, 10, 11, 12, 13, 14})}, {States: slices.Repeat([]api.State{And("a", 0)}, 70)},
		one(api.State{Enter: make([]api.Act, 1)}), one(api.State{Exit: make([]api.Act, 20)}), one(api.State{Enter: []api.Act{{Expr: long}}}),
		own(api.Trans{Event: "\xff"}), own(api.Trans{Guard: make([]api.Term, 1)}), own(api.Trans{Guard: long}), own(api.Trans{Guard: append(long, api.Term{Op: api.TmTrue})}), own(api.Trans{Guard: []api.Term{{Op: api.TmAdd}, {Op: api.TmNum}}}), own(api.Trans{Guard: []api.Term{{Op: math.MaxInt}}}), own(api.Trans{Guard: []api.Term{{Op: math.MinInt}}}), own(api.Trans{Acts: make([]api.Act, 1)}), own(api.Trans{Target: "or"}),
	}
	for _, v := range []api.Var{{Lo: math.MinInt, Hi: math.MaxInt}, {Lo: math.MaxInt, Hi: math.MinInt}, {Lo: math.MinInt, Hi: math.MinInt, Init: math.MinInt}, {Lo: -5, Hi: math.MaxInt, Init: -5}, {Lo: math.MinInt, Hi: 5, Init: 5}} {
		c := Rich(t)
		c.Vars = append(c.Vars, v)
		all = append(all, c)
	}
	return all
}
