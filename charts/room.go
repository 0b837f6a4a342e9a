package charts

import (
	"slices"

	"semblance/api"
)

// Roomy is the same chart, that shares no memory with it; behind the end of each list there is room, in which something else stands.
func Roomy(c api.Chart) api.Chart { return copied(c, true) }

// Behind is a chart of which each list goes on with what stands in the room behind its end; it shares no memory with it.
func Behind(c api.Chart) api.Chart { return copied(c, false) }

// Wreck clears all that stands in a chart's lists, and in the room behind them.
func Wreck(c api.Chart) {
	for _, s := range c.States {
		wreckActs(s.Enter)
		wreckActs(s.Exit)
		for _, t := range s.Trans {
			clear(t.Guard[:cap(t.Guard)])
			wreckActs(t.Acts)
		}
		clear(s.Trans[:cap(s.Trans)])
	}
	clear(c.Events[:cap(c.Events)])
	clear(c.Vars[:cap(c.Vars)])
	clear(c.States[:cap(c.States)])
}

// wreckActs does that to acts.
func wreckActs(l []api.Act) {
	for _, one := range l {
		clear(one.Expr[:cap(one.Expr)])
	}
	clear(l[:cap(l)])
}

// copied is a copy of a chart, with room behind each list, or with what stands there.
func copied(c api.Chart, room bool) api.Chart {
	c.Events = list(c.Events, room, "behind")
	c.Vars = list(c.Vars, room, api.Var{Name: "behind"})
	c.States = list(c.States, room, api.State{Name: "behind"})
	for at := range c.States {
		s := &c.States[at]
		s.Enter, s.Exit = acts(s.Enter, room), acts(s.Exit, room)
		s.Trans = list(s.Trans, room, api.Trans{Event: "behind"})
		for k := range s.Trans {
			s.Trans[k].Guard, s.Trans[k].Acts = terms(s.Trans[k].Guard, room), acts(s.Trans[k].Acts, room)
		}
	}
	return c
}

// acts is a copy of acts, in that way.
func acts(l []api.Act, room bool) []api.Act {
	l = list(l, room, api.Act{Name: "behind"})
	for at := range l {
		l[at].Expr = terms(l[at].Expr, room)
	}
	return l
}

// terms is a copy of terms, in that way.
func terms(l []api.Term, room bool) []api.Term {
	return list(l, room, api.Term{Name: "behind"})
}

// list is a copy of a list, in that way.
func list[T any](l []T, room bool, behind T) []T {
	if room {
		return slices.Clip(slices.Concat(l, []T{behind}))[:len(l)]
	}
	return slices.Clone(l[:cap(l)])
}
