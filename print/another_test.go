package print_test

import (
	"fmt"
	"slices"
	"strings"
	"testing"

	"semblance/act"
	"semblance/api"
	"semblance/charts"
	"semblance/reading"
	"semblance/shape"
	"semblance/trans"
)

// told is the text of a chart that may be told, by another reading: state by state as the list goes; behind each one as many braces are shut as the next one stands less deep.
func told(c api.Chart) string {
	lines := []string{"chart " + c.Name + " {"}
	if len(c.Events) > 0 {
		lines = append(lines, "  event "+strings.Join(c.Events, ", ")+";")
	}
	for _, v := range c.Vars {
		lines = append(lines, fmt.Sprintf("  var %s %d .. %d = %d;", v.Name, v.Lo, v.Hi, v.Init))
	}
	for at, s := range c.States {
		deep, next := depth(c.States, at), 1
		if at+1 < len(c.States) {
			next = depth(c.States, at+1)
		}
		head := []string{1: "leaf ", 2: "or ", 3: "and "}[s.Kind] + s.Name
		own := toldOwn(s)
		if next <= deep && len(own) == 0 {
			lines = append(lines, blanks(deep, head+";")...)
			deep--
		} else {
			lines = append(lines, blanks(deep, head+" {")...)
			lines = append(lines, blanks(deep+1, own...)...)
		}
		for ; deep >= next; deep-- {
			lines = append(lines, blanks(deep, "}")...)
		}
	}
	return strings.Join(append(lines, "}"), "\n") + "\n"
}

// toldOwn is the lines of what a state has of its own, without the blanks ahead.
func toldOwn(s api.State) []string {
	var lines []string
	for at, l := range [][]api.Act{s.Enter, s.Exit} {
		if text, _ := act.Put(l); text != "" {
			lines = append(lines, []string{"enter ", "exit "}[at]+text+";")
		}
	}
	for _, one := range s.Trans {
		text, _ := trans.Put(one)
		lines = append(lines, text)
	}
	return lines
}

// depth is how deep a state stands, the first one by 1.
func depth(l []api.State, at int) int {
	if at == 0 {
		return 1
	}
	return 1 + depth(l, l[at].Parent)
}

// blanks is lines, with two blanks ahead for each brace that is open.
func blanks(open int, lines ...string) []string {
	var all []string
	for _, line := range lines {
		all = append(all, strings.Repeat(" ", 2*open)+line)
	}
	return all
}

// checkTold: a chart's text is what the other reading says.
func checkTold(t *testing.T, c api.Chart) {
	t.Helper()
	checkPut(t, c, told(c))
}

// Pt1, Pt2: a state's every combination of what may stand within it, alone and between others.
func TestCombinations(t *testing.T) {
	for _, c := range charts.Combinations(t) {
		checkTold(t, c)
	}
}

// Pt1, Pt2: all small lists of states: those that may stand so are told, the others are not.
func TestShapes(t *testing.T) {
	asked := map[api.Errno]int{}
	check := func(states []api.State) {
		c := api.Chart{Name: "c", States: slices.Clone(states)}
		for at := range c.States {
			c.States[at].Name = string(rune('a' + at))
		}
		e := shape.Check(c.States)
		asked[e]++
		if e == api.OK {
			checkTold(t, c)
		} else {
			checkNone(t, c)
		}
	}
	var some []api.State
	for kind := range 5 {
		for parent := -2; parent <= 3; parent++ {
			some = append(some, api.State{Kind: kind, Parent: parent})
		}
	}
	reading.Every(3, some, func(l []api.State) bool { check(l); return true })
	for many := 1; many <= 8; many++ {
		for at, parents := range charts.Shapes(many) {
			states := make([]api.State, many)
			for k, parent := range parents {
				states[k] = api.State{Kind: api.KdOr + (at+k)%2, Parent: parent}
				if !slices.Contains(parents, k) {
					states[k].Kind = api.KdLeaf + (at+k)%3
				}
			}
			check(states)
		}
	}
	if asked[api.OK] < 500 || asked[api.ErrArg] < 10000 {
		t.Errorf("asked so many: %v", asked)
	}
}

// Pt1, Pt2: states of each number up to MaxStates, in some orders each, and one more, how deep it ever is.
func TestManyStates(t *testing.T) {
	for many := 1; many <= 61; many++ {
		for seed := range 6 {
			depths := charts.Depths(many, 1000*many+seed)
			c := api.Chart{Name: "c", States: charts.Nested(depths)}
			if many > 60 {
				checkNone(t, c)
				continue
			}
			checkTold(t, c)
			for deep := 2; deep <= depths[many-1]+1; deep++ {
				c.States = charts.Nested(append(slices.Clone(depths), deep))
				if deep > 12 || many == 60 {
					checkNone(t, c)
				} else {
					checkTold(t, c)
				}
			}
		}
	}
}

// Pt1, Pt2: charts of all kinds of things.
func TestSome(t *testing.T) {
	sizes := map[int]int{}
	for seed := range 2000 {
		c := charts.Some(seed)
		checkTold(t, c)
		sizes[len(c.States)]++
	}
	if len(sizes) != 16 {
		t.Errorf("so many of so many states: %v", sizes)
	}
}
