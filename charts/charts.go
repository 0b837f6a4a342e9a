// Package charts is for the tests of the layers that have to do with charts: it puts charts together, writes them, and holds them against each other.
package charts

import (
	"slices"

	"semblance/act"
	"semblance/api"
	"semblance/cursor"
	"semblance/reading"
	"semblance/trans"
)

// Door is the text of the document's chart.
const Door = "chart door { event go; var n 0 .. 1 = 0; or house { leaf shut { on go -> open; } leaf open { on go [n < 1] / n := n + 1 -> shut; } } }"

// DoorForm is the text that the document's chart is told by.
const DoorForm = `chart door {
  event go;
  var n 0 .. 1 = 0;
  or house {
    leaf shut {
      on go -> open;
    }
    leaf open {
      on go [n < 1] / n := n + 1 -> shut;
    }
  }
}
`

// DoorChart is the document's chart, put together by hand.
func DoorChart() api.Chart {
	n := api.Term{Op: api.TmVar, Name: "n"}
	return api.Chart{
		Name:   "door",
		Events: []string{"go"},
		Vars:   []api.Var{{Name: "n", Lo: 0, Hi: 1, Init: 0}},
		States: []api.State{
			{Name: "house", Kind: api.KdOr, Parent: -1},
			{Name: "shut", Kind: api.KdLeaf, Parent: 0, Trans: []api.Trans{{Event: "go", Target: "open"}}},
			{Name: "open", Kind: api.KdLeaf, Parent: 0, Trans: []api.Trans{{
				Event:  "go",
				Guard:  []api.Term{{Op: api.TmLt}, n, {Op: api.TmNum, N: 1}},
				Acts:   []api.Act{{Name: "n", Expr: []api.Term{{Op: api.TmAdd}, n, {Op: api.TmNum, N: 1}}}},
				Target: "shut",
			}}},
		},
	}
}

// Acts are those of a text; of an empty one none.
func Acts(t reading.Test, s string) []api.Act {
	t.Helper()
	if s == "" {
		return nil
	}
	return reading.Whole(t, s, act.Read)
}

// Transitions are those of a text.
func Transitions(t reading.Test, s string) []api.Trans {
	t.Helper()
	return reading.Whole(t, s, func(c *cursor.Cursor) []api.Trans {
		var l []api.Trans
		for c.Good() && !c.Is(api.TokEnd, "") {
			l = append(l, trans.Read(c))
		}
		return l
	})
}

// Leaf is a leaf without anything within, right below the state at a place.
func Leaf(name string, parent int) api.State {
	return api.State{Name: name, Kind: api.KdLeaf, Parent: parent}
}

// Or is an or without anything within, right below the state at a place.
func Or(name string, parent int) api.State {
	return api.State{Name: name, Kind: api.KdOr, Parent: parent}
}

// And is an and without anything within, right below the state at a place.
func And(name string, parent int) api.State {
	return api.State{Name: name, Kind: api.KdAnd, Parent: parent}
}

// Having is a state, with the acts and transitions of texts.
func Having(t reading.Test, s api.State, enter, exit, own string) api.State {
	t.Helper()
	s.Enter, s.Exit, s.Trans = Acts(t, enter), Acts(t, exit), Transitions(t, own)
	return s
}

// Rich is a chart in which each thing stands that a chart may have, in a state further out and in one further in; it shares memory with no other one.
func Rich(t reading.Test) api.Chart {
	t.Helper()
	acts := "any x, x := y + min(1, x), any y"
	own := "auto; on a [x < 1 and in(a)] / " + acts + " -> b; on b -> a;"
	c := api.Chart{Name: "c", Events: []string{"a", "b"}, Vars: []api.Var{{Name: "x"}, {Name: "y"}}}
	c.States = []api.State{Having(t, Or("a", -1), acts, acts, own), Leaf("b", 0), Having(t, And("d", 0), acts, acts, own), Leaf("e", 2)}
	return c
}

// Belows are lists of states to stand below another one, of which some stand within others: their Parents are places in the list; -1 is around.
func Belows() [][]api.State {
	return [][]api.State{nil, {Leaf("b", -1)}, {Or("b", -1)}, {Leaf("b", -1), And("c", -1)}, {Or("b", -1), Leaf("c", 0), Leaf("d", -1)}}
}

// Combinations are charts in which a state has every combination that the grammar has, alone and between others.
func Combinations(t reading.Test) []api.Chart {
	t.Helper()
	var all []api.Chart
	some, own := choices()
	for kind := api.KdLeaf; kind <= api.KdAnd; kind++ {
		for which := range 27 {
			one := Having(t, api.State{Name: "a", Kind: kind, Parent: -1}, some[which%3], some[which/3%3], own[which/9])
			for _, below := range Belows() {
				if kind == api.KdLeaf && len(below) > 0 {
					continue
				}
				all = append(all, api.Chart{Name: "c", States: put(nil, one, below)})
				around := []api.State{Having(t, Or("top", -1), some[1], "", own[1]), Having(t, Leaf("first", 0), "", some[1], "")}
				states := put(around, one, below)
				all = append(all, api.Chart{Name: "c", Events: []string{"a", "b"}, Vars: []api.Var{{Name: "x", Lo: -1, Hi: 1}}, States: append(states, Having(t, And("last", 0), "", "", own[2]))})
			}
		}
	}
	return all
}

// choices are the texts of acts, and of transitions, that combinations take.
func choices() (acts, own []string) {
	return []string{"", "any x", "x := x + 1, any y, z := a or b"}, []string{"", "auto;", "on a [x < 1] / any x, y := 2 -> b; on c; auto -> d;"}
}

// put is states, one behind them right within the first of them, and others below that.
func put(ahead []api.State, one api.State, below []api.State) []api.State {
	l := slices.Clone(ahead)
	at := len(l)
	one.Parent = min(at, 1) - 1
	l = append(l, one)
	for _, other := range below {
		other.Parent += at + 1
		l = append(l, other)
	}
	return l
}
