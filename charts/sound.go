package charts

import (
	"slices"
	"strconv"

	"semblance/api"
	"semblance/reading"
	"semblance/syntax"
	"semblance/term"
)

// Sound is what stands between the braces of a chart in which each thing stands that a chart may have, and no rule is broken.
const Sound = `event a, b; var x 0 .. 63 = 0; var y -1000 .. -937 = -937;
or a {
  enter x := 1, y := x; exit y := -x;
  auto; on a [x < 1 and in(a)] / any x, x := x + min(1, y), any y -> b; on b -> a;
  leaf b { enter x := 2; exit x := 3; on b [not in(d) or y == x] / y := 0; }
  and d {
    enter y := max(x, 1);
    on a -> d; auto [true] -> f;
    or e { leaf f { on b -> e; } leaf g; }
    or h { exit x := x * y; leaf i; }
  }
}`

// Within is the chart of a text between its braces.
func Within(t reading.Test, s string) api.Chart {
	t.Helper()
	c, at, e := syntax.Parse("chart c { " + s + " }")
	if e != api.OK {
		t.Fatalf("the test's own text %q: error %d at %v", s, e, at)
	}
	return c
}

// Turned are the charts of a text with each one of its tokens turned to each other one of them, or left out, where that is a chart's.
func Turned(t reading.Test, s string) []api.Chart {
	t.Helper()
	l := reading.Tokens(t, s)
	words := []string{""}
	for _, one := range l {
		if !slices.Contains(words, one.Text) {
			words = append(words, one.Text)
		}
	}
	var all []api.Chart
	for at := range l {
		was := l[at].Text
		for _, word := range words {
			l[at].Text = word
			c, _, e := syntax.Parse(reading.Apart(l, func(int, string, string) string { return " " }))
			if e == api.OK {
				all = append(all, c)
			}
		}
		l[at].Text = was
	}
	return all
}

// Good is a chart that breaks no rule; which one is told by a seed.
func Good(seed int) api.Chart {
	d := &dice{uint64(seed)}
	c := api.Chart{Name: d.name(), Events: d.names(d.roll(4)), States: Nested(Depths(1+d.roll(12), seed))}
	for _, name := range d.names(d.roll(4)) {
		lo := d.roll(7) - 4
		hi := lo + d.roll(4)
		c.Vars = append(c.Vars, api.Var{Name: name, Lo: lo, Hi: hi, Init: lo + d.roll(hi-lo+1)})
	}
	for at, name := range d.names(len(c.States)) {
		c.States[at].Name = name
	}
	for at := range c.States {
		s := &c.States[at]
		s.Kind = d.kind(c.States, at)
		f := fitting{d, c, false}
		s.Enter, s.Exit = rolled(d, 1+2*len(c.Vars), f.act), rolled(d, 1+2*len(c.Vars), f.act)
		f.any = true
		s.Trans = rolled(d, 4, f.trans)
	}
	return c
}

// names are so many names, no two of which are the same.
func (d *dice) names(many int) []string {
	var l []string
	for len(l) < many {
		name := d.name()
		for slices.Contains(l, name) {
			name = "s" + strconv.Itoa(d.roll(2*many))
		}
		l = append(l, name)
	}
	return l
}

// kind is one that a state may be of, by how many are right below it.
func (d *dice) kind(l []api.State, at int) int {
	switch kids(l, at) {
	case 0:
		return api.KdLeaf
	case 1:
		return api.KdOr
	}
	return api.KdOr + d.roll(2)
}

// kids is how many states are right below the one at a place.
func kids(l []api.State, at int) int {
	below := 0
	for _, s := range l {
		if s.Parent == at {
			below++
		}
	}
	return below
}

// Shaped is a chart that breaks no rule, of states alone, by their Parents; which of them are or, and which and, is told by a seed.
func Shaped(parents []int, seed int) api.Chart {
	d := &dice{uint64(seed)}
	c := api.Chart{Name: "c"}
	for at, parent := range parents {
		c.States = append(c.States, api.State{Name: "s" + strconv.Itoa(at), Parent: parent})
	}
	for at := range c.States {
		c.States[at].Kind = d.kind(c.States, at)
	}
	return c
}

// fitting rolls what fits a chart; acts may take any value, or not.
type fitting struct {
	*dice
	c   api.Chart
	any bool
}

// variable is the name of a variable.
func (f fitting) variable() string { return f.c.Vars[f.roll(len(f.c.Vars))].Name }

// state is the name of a state.
func (f fitting) state() string { return f.c.States[f.roll(len(f.c.States))].Name }

// act is an act of the chart.
func (f fitting) act() api.Act {
	if f.any && f.roll(3) == 0 {
		return api.Act{Name: f.variable(), Any: true}
	}
	return api.Act{Name: f.variable(), Expr: f.expr(api.TyInt, 1+f.roll(3))}
}

// trans is a transition of the chart.
func (f fitting) trans() api.Trans {
	t := api.Trans{Acts: rolled(f.dice, 1+2*len(f.c.Vars), f.act)}
	if many := len(f.c.Events); many > 0 && f.roll(4) > 0 {
		t.Event = f.c.Events[f.roll(many)]
	}
	if f.roll(2) == 0 {
		t.Guard = f.expr(api.TyBool, 1+f.roll(4))
	}
	if f.roll(4) > 0 {
		t.Target = f.state()
	}
	return t
}

// expr is an expression of the chart, of a type, so deep at most.
func (f fitting) expr(ty, deep int) []api.Term {
	own, below := f.op(ty, deep)
	one := api.Term{Op: own}
	switch own {
	case api.TmNum:
		one.N = f.roll(4)
	case api.TmVar:
		one.Name = f.variable()
	case api.TmIn:
		one.Name = f.state()
	}
	l := []api.Term{one}
	for range term.Arity(own) {
		l = append(l, f.expr(below, deep-1)...)
	}
	return l
}

// op is an Op of a type, and the type of what is below it; none is below, if it may be no deeper.
func (f fitting) op(ty, deep int) (own, below int) {
	own, below = api.TmNum, api.TyInt
	ops := []int{api.TmNum, api.TmVar, api.TmVar, api.TmNeg, api.TmAdd, api.TmSub, api.TmMul, api.TmMin, api.TmMax}
	if ty == api.TyBool {
		own = api.TmTrue
		ops = []int{api.TmTrue, api.TmFalse, api.TmIn, api.TmIn, api.TmNot, api.TmAnd, api.TmOr, api.TmEq, api.TmNe, api.TmLt, api.TmLe, api.TmGt, api.TmGe}
	}
	switch one := ops[f.roll(len(ops))]; {
	case deep == 1 && term.Arity(one) > 0, one == api.TmVar && len(f.c.Vars) == 0:
		return own, below
	case one == api.TmNot, one == api.TmAnd, one == api.TmOr:
		return one, api.TyBool
	default:
		return one, below
	}
}
