package charts

import (
	"slices"
	"strconv"

	"semblance/api"
	"semblance/term"
)

// Shapes are all lists of so many Parents by which states may stand.
func Shapes(many int) [][]int {
	if many == 1 {
		return [][]int{{-1}}
	}
	var all [][]int
	for _, l := range Shapes(many - 1) {
		// A state stands below the one right ahead, or below one above that.
		for parent := many - 2; parent >= 0; parent = l[parent] {
			all = append(all, append(slices.Clone(l), parent))
		}
	}
	return all
}

// dice tells numbers that look as if there were no order in them; they hang on its seed alone.
type dice struct{ seed uint64 }

// roll is one of so many numbers, from 0 on.
func (d *dice) roll(many int) int {
	d.seed = d.seed*6364136223846793005 + 1442695040888963407
	return int(d.seed>>33) % many
}

// Depths are so many depths, 12 at most, that begin with 1, by which states may stand; which ones is told by a seed.
func Depths(many, seed int) []int {
	d := dice{uint64(seed)}
	l := []int{1}
	for len(l) < many {
		l = append(l, min(2+d.roll(12), l[len(l)-1]+1, 12))
	}
	return l
}

// Nested are states that stand so deep each, one behind the other, the first one by 1.
func Nested(depths []int) []api.State {
	var l []api.State
	for at, deep := range depths {
		// The one right around is the last one ahead that stands one less deep.
		parent := at - 1
		for parent >= 0 && depths[parent] != deep-1 {
			parent--
		}
		l = append(l, Or("s"+strconv.Itoa(at), parent))
	}
	return l
}

// Some is a chart that may be told; which one is told by a seed.
func Some(seed int) api.Chart {
	d := &dice{uint64(seed)}
	c := api.Chart{Name: d.name(), Events: rolled(d, 9, d.name), Vars: rolled(d, 5, d.variable)}
	c.States = Nested(Depths(1+d.roll(16), seed))
	for at := range c.States {
		s := &c.States[at]
		s.Name, s.Kind = d.name(), api.KdOr+d.roll(2)
		// Nothing is below a state, if it is not right below the one right behind.
		if at == len(c.States)-1 || c.States[at+1].Parent != at {
			s.Kind = api.KdLeaf + d.roll(3)
		}
		s.Enter, s.Exit, s.Trans = rolled(d, 3, d.act), rolled(d, 3, d.act), rolled(d, 4, d.trans)
	}
	return c
}

// rolled is a list of fewer than so many things.
func rolled[T any](d *dice, many int, one func() T) []T {
	var l []T
	for range d.roll(many) {
		l = append(l, one())
	}
	return l
}

// name is a name.
func (d *dice) name() string {
	return []string{"a", "b", "c", "x", "y", "go", "leafs", "on_1", "abcdefghijkl", "z9"}[d.roll(10)]
}

// maybe is a name, or none.
func (d *dice) maybe() string {
	if d.roll(3) == 0 {
		return ""
	}
	return d.name()
}

// variable is a variable, whose numbers need not fit each other.
func (d *dice) variable() api.Var {
	number := func() int { return d.roll(2*api.MaxAbs+1) - api.MaxAbs }
	return api.Var{Name: d.name(), Lo: number(), Hi: number(), Init: number()}
}

// act is an act that may be.
func (d *dice) act() api.Act {
	if d.roll(3) == 0 {
		return api.Act{Name: d.name(), Any: true}
	}
	return api.Act{Name: d.name(), Expr: d.expr(4)}
}

// trans is a transition that may be.
func (d *dice) trans() api.Trans {
	t := api.Trans{Event: d.maybe(), Acts: rolled(d, 4, d.act), Target: d.maybe()}
	if d.roll(2) == 0 {
		t.Guard = d.expr(5)
	}
	return t
}

// expr is an expression, so deep at most, of any type or none.
func (d *dice) expr(deep int) []api.Term {
	op := api.TmNum + d.roll(api.TmOr)
	for deep == 1 && term.Arity(op) > 0 {
		op = api.TmNum + d.roll(api.TmOr)
	}
	one := api.Term{Op: op}
	switch op {
	case api.TmNum:
		one.N = d.roll(api.Big + 1)
	case api.TmVar, api.TmIn:
		one.Name = d.name()
	}
	l := []api.Term{one}
	for range term.Arity(op) {
		l = append(l, d.expr(deep-1)...)
	}
	return l
}
