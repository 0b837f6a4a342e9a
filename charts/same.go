package charts

import (
	"slices"
	"strconv"

	"semblance/api"
)

// entries are what things have, one behind the other: texts, numbers, and ahead of the things of a list how many there are, so that they are the same just if the things are.
type entries []string

// Same tells whether charts are the same, by what they have; no list is the same as an empty one.
func Same(a, b api.Chart) bool {
	return slices.Equal(allOf(a), allOf(b))
}

// SameState tells whether states are the same, in the same way.
func SameState(a, b api.State) bool {
	return Same(api.Chart{States: []api.State{a}}, api.Chart{States: []api.State{b}})
}

// allOf is all that a chart has.
func allOf(c api.Chart) entries {
	var l entries
	l.texts(c.Name)
	l.numbers(len(c.Events))
	l.texts(c.Events...)
	l.numbers(len(c.Vars))
	for _, v := range c.Vars {
		l.texts(v.Name)
		l.numbers(v.Lo, v.Hi, v.Init)
	}
	l.numbers(len(c.States))
	for _, s := range c.States {
		l.state(s)
	}
	return l
}

// texts puts texts behind.
func (l *entries) texts(texts ...string) { *l = append(*l, texts...) }

// numbers puts numbers behind.
func (l *entries) numbers(numbers ...int) {
	for _, n := range numbers {
		l.texts(strconv.Itoa(n))
	}
}

// state puts all that a state has behind.
func (l *entries) state(s api.State) {
	l.texts(s.Name)
	l.numbers(s.Kind, s.Parent)
	l.acts(s.Enter)
	l.acts(s.Exit)
	l.numbers(len(s.Trans))
	for _, t := range s.Trans {
		l.texts(t.Event, t.Target)
		l.terms(t.Guard)
		l.acts(t.Acts)
	}
}

// acts puts all that acts have behind.
func (l *entries) acts(acts []api.Act) {
	l.numbers(len(acts))
	for _, a := range acts {
		l.texts(a.Name, strconv.FormatBool(a.Any))
		l.terms(a.Expr)
	}
}

// terms puts all that terms have behind.
func (l *entries) terms(terms []api.Term) {
	l.numbers(len(terms))
	for _, one := range terms {
		l.texts(one.Name)
		l.numbers(one.Op, one.N)
	}
}
