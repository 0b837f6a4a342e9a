package charts

import (
	"math"
	"strconv"

	"semblance/api"
	"semblance/atlas"
	"semblance/reading"
)

// Atlas is a sound chart's atlas.
func Atlas(t reading.Test, c api.Chart) *atlas.Atlas {
	t.Helper()
	a, e := atlas.New(c)
	if e != api.OK || a == nil {
		t.Fatalf("New(%v): %v, error %d", c, a, e)
	}
	return a
}

// Nobodys are atlases that New did not give.
func Nobodys() []*atlas.Atlas {
	var zero atlas.Atlas
	other, _ := atlas.New(api.Chart{})
	return []*atlas.Atlas{nil, &zero, new(atlas.Atlas), {}, other}
}

// NoPlaces are places that no chart of so many states has.
func NoPlaces(many int) []int {
	return []int{many, many + 1, 64, 65, 99, 128, 1 << 32, 1<<32 + 1, math.MaxInt, -1, -2, -64, -1 << 32, math.MinInt, math.MinInt + 1}
}

// Several are sound charts of several kinds: all small shapes, and charts of up to so many states, as deep as may be, with all that a chart may have.
func Several(t reading.Test) []api.Chart {
	t.Helper()
	all := []api.Chart{DoorChart(), Within(t, Sound)}
	for many := 1; many <= 6; many++ {
		for _, parents := range Shapes(many) {
			all = append(all, Shaped(parents, many))
		}
	}
	for seed := range 300 {
		var parents []int
		for _, s := range Nested(Depths(1+seed%60, seed)) {
			parents = append(parents, s.Parent)
		}
		all = append(all, Good(seed), Shaped(parents, seed))
	}
	return all
}

// Deepest is a sound chart of states as deep as they may be, one within the other.
func Deepest() api.Chart {
	c := api.Chart{Name: "c", States: Nested([]int{1, 2, 3, 4, 5, 6, 7, 8, 9, 10, 11, 12})}
	c.States[11].Kind = api.KdLeaf
	return c
}

// Most is a sound chart of as many states as may be, all but the first one leaves right below that, which is of a kind.
func Most(kind int) api.Chart {
	c := api.Chart{Name: "c", States: []api.State{{Name: "top", Kind: kind, Parent: -1}}}
	for at := 1; at < api.MaxStates; at++ {
		c.States = append(c.States, Leaf("s"+strconv.Itoa(at), 0))
	}
	return c
}
