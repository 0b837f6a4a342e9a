package charts

import (
	"slices"

	"semblance/api"
)

// Kinds are all sound charts of states alone, by their Parents: a state that two are right below may be an or, and an and.
func Kinds(parents []int) []api.Chart {
	all := []api.Chart{Shaped(parents, 0)}
	for at := range parents {
		if kids(all[0].States, at) < 2 {
			continue
		}
		for _, c := range all {
			c.States = slices.Clone(c.States)
			c.States[at].Kind = api.KdOr + api.KdAnd - c.States[at].Kind
			all = append(all, c)
		}
	}
	return all
}

// Together are all sets of a sound chart's states that may be active at once, by the bits of their places. (A chart may have far too many.)
func Together(c api.Chart) []uint64 { return togetherFrom(c.States, 0) }

// togetherFrom are those of the state at a place, and the ones below it.
func togetherFrom(l []api.State, at int) []uint64 {
	own := []uint64{1 << at}
	var below []uint64
	for k, s := range l {
		switch {
		case s.Parent != at:
		case l[at].Kind == api.KdAnd:
			own = joined(own, togetherFrom(l, k))
		default:
			below = append(below, togetherFrom(l, k)...)
		}
	}
	if l[at].Kind == api.KdOr {
		return joined(own, below)
	}
	return own
}

// joined is each set of a list with each one of another list; no two have a place in common.
func joined(a, b []uint64) []uint64 {
	var all []uint64
	for _, one := range a {
		for _, other := range b {
			all = append(all, one+other)
		}
	}
	return all
}

// Config is a configuration that may be, of a sound chart; which one is told by a seed.
func Config(c api.Chart, seed int) api.Config {
	d := &dice{uint64(seed)}
	var x api.Config
	active := make([]bool, len(c.States))
	picked := make([]int, len(c.States))
	for at, s := range c.States {
		active[at] = at == 0 || active[s.Parent] && (c.States[s.Parent].Kind == api.KdAnd || picked[s.Parent] == at)
		if active[at] {
			x.Active += 1 << at
		}
		if s.Kind == api.KdOr {
			picked[at] = d.below(c.States, at)
		}
	}
	for at, v := range c.Vars {
		x.Vals[at] = v.Lo + d.roll(v.Hi-v.Lo+1)
	}
	return x
}

// below is the place of one of the states right below the one at a place.
func (d *dice) below(l []api.State, at int) int {
	skip := d.roll(kids(l, at))
	for k, s := range l {
		if s.Parent == at {
			if skip == 0 {
				return k
			}
			skip--
		}
	}
	return -1
}
