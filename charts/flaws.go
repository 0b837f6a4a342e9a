package charts

import (
	"cmp"
	"slices"

	"semblance/api"
)

// walk is another reading of the rules than layer 14's: a chart gone through once, with each flaw put down as it is come to, sorted behind that.
type walk struct {
	c     api.Chart
	flaws []api.Flaw
}

// Flaws are all flaws of a chart, by rule, Item and Part.
func Flaws(c api.Chart) []api.Flaw {
	w := &walk{c: c}
	for at, v := range c.Vars {
		// Gone through from the first value to the last one, as far as there may be.
		size, met := 0, false
		for n := v.Lo; n <= v.Hi && size <= 64; n++ {
			size++
			met = met || n == v.Init
		}
		w.put(size > 64 || !met, api.RuleRange, at, 0)
		w.twin(api.RuleVar, at, func(k int) bool { return c.Vars[k].Name == v.Name })
	}
	for at, e := range c.Events {
		w.twin(api.RuleEvent, at, func(k int) bool { return c.Events[k] == e })
	}
	below := make(map[int]int)
	for at, s := range c.States {
		below[s.Parent]++
		w.twin(api.RuleName, at, func(k int) bool { return c.States[k].Name == s.Name })
		w.state(at, s)
	}
	for at, s := range c.States {
		w.put(s.Kind == api.KdOr && below[at] < 1 || s.Kind == api.KdAnd && below[at] < 2, api.RuleKids, at, 0)
	}
	slices.SortFunc(w.flaws, func(a, b api.Flaw) int {
		return cmp.Or(cmp.Compare(a.Rule, b.Rule), cmp.Compare(a.Item, b.Item), cmp.Compare(a.Part, b.Part))
	})
	return w.flaws
}

// put puts a flaw down, if it is one.
func (w *walk) put(is bool, rule, item, part int) {
	if is {
		w.flaws = append(w.flaws, api.Flaw{Rule: rule, Item: item, Part: part})
	}
}

// twin puts down that one ahead has the same name.
func (w *walk) twin(rule, at int, same func(k int) bool) {
	for k := range at {
		if same(k) {
			w.put(true, rule, at, 0)
			return
		}
	}
}

// state puts down what its transitions, and what is done as it is entered and left, break.
func (w *walk) state(at int, s api.State) {
	for part, l := range [][]api.Act{s.Enter, s.Exit} {
		w.put(!w.acts(l) || slices.ContainsFunc(l, func(a api.Act) bool { return a.Any }), api.RuleEdge, at, part)
	}
	for part, t := range s.Trans {
		w.put(t.Event != "" && !slices.Contains(w.c.Events, t.Event), api.RuleOn, at, part)
		w.put(t.Target != "" && !w.isState(t.Target), api.RuleTarget, at, part)
		w.put(len(t.Guard) > 0 && w.typeOf(t.Guard) != api.TyBool, api.RuleGuard, at, part)
		w.put(!w.acts(t.Acts), api.RuleActs, at, part)
	}
}

// isVar tells whether a name is a variable's.
func (w *walk) isVar(s string) bool {
	return slices.ContainsFunc(w.c.Vars, func(v api.Var) bool { return v.Name == s })
}

// isState tells whether a name is a state's.
func (w *walk) isState(s string) bool {
	return slices.ContainsFunc(w.c.States, func(one api.State) bool { return one.Name == s })
}

// acts tells whether acts are of the chart.
func (w *walk) acts(l []api.Act) bool {
	for _, a := range l {
		if !w.isVar(a.Name) || !a.Any && w.typeOf(a.Expr) != api.TyInt {
			return false
		}
	}
	return true
}

// typeOf is the type of an expression of the chart; none, if it is not of it. Gone through from its end, with the types of what is not taken yet in a list.
func (w *walk) typeOf(l []api.Term) int {
	var open []int
	for at := len(l) - 1; at >= 0; at-- {
		own, below := w.typeIn(l[at])
		if own == api.TyNone || len(open) < len(below) || !slices.Equal(open[:len(below)], below) {
			return api.TyNone
		}
		open = slices.Concat([]int{own}, open[len(below):])
	}
	if len(open) != 1 {
		return api.TyNone
	}
	return open[0]
}

// typeIn is the type of a term in the chart, and those which must be below it.
func (w *walk) typeIn(one api.Term) (own int, below []int) {
	const number, truth = api.TyInt, api.TyBool
	switch one.Op {
	case api.TmNum:
		return number, nil
	case api.TmVar:
		if w.isVar(one.Name) {
			return number, nil
		}
	case api.TmIn:
		if w.isState(one.Name) {
			return truth, nil
		}
	case api.TmTrue, api.TmFalse:
		return truth, nil
	case api.TmNeg:
		return number, []int{number}
	case api.TmNot:
		return truth, []int{truth}
	case api.TmAdd, api.TmSub, api.TmMul, api.TmMin, api.TmMax:
		return number, []int{number, number}
	case api.TmAnd, api.TmOr:
		return truth, []int{truth, truth}
	default:
		return truth, []int{number, number}
	}
	return api.TyNone, nil
}
