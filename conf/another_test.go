package conf_test

import (
	"math"
	"slices"
	"testing"

	"semblance/api"
	"semblance/charts"
	"semblance/conf"
)

// small are all sound charts of states alone, up to so many.
func small(most int) []api.Chart {
	var all []api.Chart
	for many := 1; many <= most; many++ {
		for _, parents := range charts.Shapes(many) {
			all = append(all, charts.Kinds(parents)...)
		}
	}
	return all
}

// filled is a set filled, by another reading of the words: whether a state is in it is asked of that state, and of those above it.
func filled(l []api.State, m uint64) uint64 {
	right := func(at int) []int {
		var kids []int
		for k, s := range l {
			if s.Parent == at {
				kids = append(kids, k)
			}
		}
		return kids
	}
	var in func(at int) bool
	in = func(at int) bool {
		if m>>at&1 == 1 {
			return true
		}
		up := l[at].Parent
		if up == -1 || !in(up) {
			return false
		}
		beside := right(up)
		return l[up].Kind == api.KdAnd || beside[0] == at && !slices.ContainsFunc(beside, func(k int) bool { return m>>k&1 == 1 })
	}
	want := uint64(0)
	for at := range l {
		if in(at) {
			want += 1 << at
		}
	}
	return want
}

// Cf1, Cf3: all sets of all small charts: which may be active, and what they are, filled.
func TestAllSets(t *testing.T) {
	met := 0
	for _, c := range small(7) {
		a, together := charts.Atlas(t, c), charts.Together(c)
		met += len(together)
		if x := conf.First(a); !slices.Contains(together, x.Active) {
			t.Errorf("First of %v: %v", c, x)
		}
		for m := range uint64(1) << len(c.States) {
			want := api.ErrArg
			if slices.Contains(together, m) {
				want = api.OK
			}
			if e := conf.Check(a, api.Config{Active: m}); e != want {
				t.Errorf("Check of %b in %v: error %d, not %d", m, c, e, want)
			}
			checkFill(t, c, m)
		}
	}
	if met < 1000 {
		t.Errorf("so many sets may be active: %d", met)
	}
}

// checkFill: a set is filled as the words say, with all that may stand behind the states' places, and stays so, filled again.
func checkFill(t *testing.T, c api.Chart, m uint64) {
	t.Helper()
	a, want := charts.Atlas(t, c), filled(c.States, m)
	for _, more := range []uint64{0, 1 << 63, math.MaxUint64 << len(c.States)} {
		if got := conf.Fill(a, m|more); got != want || conf.Fill(a, got) != want {
			t.Errorf("Fill of %b in %v: %b, not %b; again: %b", m|more, c, got, want, conf.Fill(a, got))
		}
	}
}

// Cf1, Cf3: First, Check and Fill of charts of several kinds: no configuration that may be is one, if one state more, or one less, is active.
func TestMany(t *testing.T) {
	for seed, c := range charts.Several(t) {
		a := charts.Atlas(t, c)
		first := conf.First(a)
		want := api.Config{Active: filled(c.States, 1)}
		for at, v := range c.Vars {
			want.Vals[at] = v.Init
		}
		if e := conf.Check(a, first); first != want || e != api.OK {
			t.Errorf("First of %v: %v, not %v; error %d", c, first, want, e)
		}
		for k := range 4 {
			x := charts.Config(c, 4*seed+k)
			if e := conf.Check(a, x); e != api.OK || conf.Fill(a, x.Active) != x.Active {
				t.Errorf("of %v in %v: error %d, filled %b", x, c, e, conf.Fill(a, x.Active))
			}
			for at := range 64 {
				other := x
				other.Active ^= 1 << at
				if e := conf.Check(a, other); e != api.ErrArg {
					t.Errorf("Check of %v in %v: error %d", other, c, e)
				}
			}
			checkFill(t, c, x.Active&charts.Config(c, 4*seed+k+1).Active)
			checkFill(t, c, x.Active&^1|charts.Config(c, 4*seed+k+1).Active)
		}
	}
}

// Cf1: one value that is not from its Lo to its Hi, or not 0 behind the last variable.
func TestManyValues(t *testing.T) {
	for seed, c := range charts.Several(t) {
		a := charts.Atlas(t, c)
		x := charts.Config(c, seed)
		for at := range api.MaxVars {
			v := api.Var{}
			if at < len(c.Vars) {
				v = c.Vars[at]
			}
			for _, n := range []int{v.Lo - 1, v.Lo, v.Hi, v.Hi + 1, math.MinInt, math.MaxInt} {
				checkValue(t, a, x, at, n, v.Lo <= n && n <= v.Hi)
			}
		}
	}
}

// Cf2: Leaves and Env of configurations that may be, and of others.
func TestNames(t *testing.T) {
	for seed, c := range charts.Several(t) {
		a := charts.Atlas(t, c)
		for _, x := range []api.Config{conf.First(a), charts.Config(c, seed), {Active: math.MaxUint64}, {Active: 0x5555555555555555, Vals: [4]int{-1, 2, -3, 4}}, {Active: 0xaaaaaaaaaaaaaaaa}} {
			var leaves, in []string
			for at, s := range c.States {
				if x.Active>>at&1 == 0 {
					continue
				}
				in = append(in, s.Name)
				if s.Kind == api.KdLeaf {
					leaves = append(leaves, s.Name)
				}
			}
			if got := conf.Leaves(a, x); !slices.Equal(got, leaves) {
				t.Errorf("Leaves of %v in %v: %q, not %q", x, c, got, leaves)
			}
			if got, want := conf.Env(a, x), (api.Env{Vars: c.Vars, Vals: x.Vals, In: in}); !sameEnv(got, want) {
				t.Errorf("Env of %v in %v: %v, not %v", x, c, got, want)
			}
		}
	}
}

// Cf3: of a configuration that may be each leaf has all above it active, and the leaves alone, with all above them, are it.
func TestLeavesAbove(t *testing.T) {
	for seed, c := range charts.Several(t) {
		a := charts.Atlas(t, c)
		for k := range 4 {
			x := charts.Config(c, 4*seed+k)
			if e := conf.Check(a, x); e != api.OK {
				t.Fatalf("Check of %v in %v: error %d", x, c, e)
			}
			around := uint64(0)
			for _, name := range conf.Leaves(a, x) {
				for at := a.Place(name); at != -1; at = c.States[at].Parent {
					around |= 1 << at
				}
			}
			if around != x.Active {
				t.Errorf("the leaves %q of %v in %v have %b around", conf.Leaves(a, x), x, c, around)
			}
		}
	}
}

// Cf2: Less puts all configurations in one order.
func TestOrder(t *testing.T) {
	var all []api.Config
	for _, m := range []uint64{0, 1, 3, 1 << 63} {
		for which := range 81 {
			all = append(all, api.Config{Active: m, Vals: [4]int{which/27 - 1, which/9%3 - 1, which/3%3 - 1, which%3 - 1}})
		}
	}
	for i, x := range all {
		for k, y := range all {
			if got := conf.Less(x, y); got != (i < k) {
				t.Fatalf("Less(%v, %v): %t", x, y, got)
			}
		}
	}
}
