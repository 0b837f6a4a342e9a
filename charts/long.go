package charts

import (
	"slices"

	"semblance/api"
	"semblance/reading"
	"semblance/trans"
)

// Wide is the sum of so many of a variable, no deeper than it must be.
func Wide(many int) []api.Term {
	if many == 1 {
		return []api.Term{{Op: api.TmVar, Name: "x"}}
	}
	return slices.Concat([]api.Term{{Op: api.TmAdd}}, Wide(many/2), Wide(many-many/2))
}

// Long is a chart whose text has so many tokens: leaves with long transitions, and what is left to make up in short ones further out.
func Long(t reading.Test, many int) api.Chart {
	t.Helper()
	c := api.Chart{Name: "c", States: []api.State{Or("top", -1)}}
	one := api.Trans{Guard: Wide(20)}
	text, _ := trans.Put(one)
	size := reading.Count(t, text)
	last := 0
	for many -= 8; many >= size+6; many -= size {
		if last == 0 || len(c.States[last].Trans) == 16 {
			c.States = append(c.States, Leaf("a", 0))
			last, many = last+1, many-4
		}
		c.States[last].Trans = append(c.States[last].Trans, one)
	}
	short := Transitions(t, "auto; on a; auto -> b; on a -> b;")
	for many > 0 {
		size := min(many, 5)
		if many == 6 {
			size = 4
		}
		c.States[0].Trans = append(c.States[0].Trans, short[size-2])
		many -= size
	}
	return c
}

// Longest is a chart whose text has many bytes for each of its tokens: all stands deep, and names are as long as may be.
func Longest() api.Chart {
	name := "abcdefghijkl"
	own := slices.Repeat([]api.Trans{{Event: name}}, 16)
	acts := slices.Repeat([]api.Act{{Name: name, Any: true}}, 2)
	c := api.Chart{Name: name, States: Nested([]int{1, 2, 3, 4, 5, 6, 7, 8, 9, 10, 11})}
	c.States = append(c.States, slices.Repeat([]api.State{Leaf(name, 10)}, 49)...)
	for at := range c.States {
		s := &c.States[at]
		s.Name, s.Enter, s.Exit, s.Trans = name, acts, acts, own
	}
	return c
}
