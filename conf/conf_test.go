package conf_test

import (
	"math"
	"slices"
	"testing"

	"semblance/api"
	"semblance/atlas"
	"semblance/charts"
	"semblance/conf"
)

// set is the set of places.
func set(places ...int) uint64 {
	m := uint64(0)
	for _, at := range places {
		m |= 1 << at
	}
	return m
}

// sameEnv tells whether Envs are the same; no list is the same as an empty one.
func sameEnv(a, b api.Env) bool {
	return slices.Equal(a.Vars, b.Vars) && a.Vals == b.Vals && slices.Equal(a.In, b.In)
}

// Cf1, Cf2: the chapter's example, and the document's chart.
func TestExamples(t *testing.T) {
	a := charts.Atlas(t, charts.Within(t, "or a { leaf b; leaf c; }"))
	first := api.Config{Active: set(0, 1)}
	if got := conf.First(a); got != first || conf.Check(a, got) != api.OK || !slices.Equal(conf.Leaves(a, got), []string{"b"}) {
		t.Errorf("First: %v", got)
	}
	a = charts.Atlas(t, charts.DoorChart())
	if got := conf.First(a); got != first || !slices.Equal(conf.Leaves(a, got), []string{"shut"}) {
		t.Errorf("First of the document's chart: %v", got)
	}
	env := api.Env{Vars: []api.Var{{Name: "n", Lo: 0, Hi: 1, Init: 0}}, Vals: [4]int{1}, In: []string{"house", "open"}}
	if got := conf.Env(a, api.Config{Active: set(0, 2), Vals: [4]int{1}}); !sameEnv(got, env) {
		t.Errorf("Env of the document's chart: %v", got)
	}
}

// Cf1: which states may be active together, by hand.
func TestCheckStates(t *testing.T) {
	a := charts.Atlas(t, charts.Within(t, charts.Sound))
	vals := [4]int{0, -1000}
	for _, m := range []uint64{set(0, 1), set(0, 2, 3, 4, 6, 7), set(0, 2, 3, 5, 6, 7)} {
		if e := conf.Check(a, api.Config{Active: m, Vals: vals}); e != api.OK {
			t.Errorf("Check of %b: error %d", m, e)
		}
	}
	for why, l := range map[string][]uint64{
		"the first one is not active":               {0, set(1), set(2, 3, 4, 6, 7), set(4), set(7)},
		"one's parent is not active":                {set(0, 1, 4), set(0, 1, 7), set(0, 1, 3, 5), set(0, 1, 6, 7), set(0, 1, 3, 4, 6, 7)},
		"none is active below an or":                {set(0), set(0, 2, 3, 6, 7), set(0, 2, 3, 4, 6), set(0, 2, 3, 6)},
		"two are active below an or":                {set(0, 1, 2, 3, 4, 6, 7), set(0, 2, 3, 4, 5, 6, 7), set(0, 1, 2, 3, 4, 5, 6, 7)},
		"not all are active below an and":           {set(0, 2, 3, 4), set(0, 2, 3, 5), set(0, 2, 6, 7), set(0, 2)},
		"a place that there is not":                 {set(0, 1, 8), set(0, 1, 59), set(0, 1, 60), set(0, 1, 63), set(0, 2, 3, 4, 6, 7, 8), set(0, 2, 3, 5, 6, 7, 63), set(63), set(8), 1<<63 - 1, math.MaxUint64, ^set(0), ^set(1)},
		"another one is active, than may be at all": {set(1, 2), set(0, 3), set(0, 4), set(0, 7), set(0, 3, 4), set(0, 6, 7), set(2, 3, 4), set(3, 4)},
	} {
		for _, m := range l {
			if e := conf.Check(a, api.Config{Active: m, Vals: vals}); e != api.ErrArg {
				t.Errorf("%s: Check of %b: error %d", why, m, e)
			}
		}
	}
}

// Cf1: a chart of one state, one as deep as may be, and ones of as many states as may be.
func TestCheckEdges(t *testing.T) {
	one, deepest := charts.Atlas(t, charts.Within(t, "leaf a;")), charts.Atlas(t, charts.Deepest())
	or, and := charts.Atlas(t, charts.Most(api.KdOr)), charts.Atlas(t, charts.Most(api.KdAnd))
	for _, is := range []struct {
		a    *atlas.Atlas
		m    uint64
		want api.Errno
	}{
		{one, 1, api.OK}, {one, 0, api.ErrArg}, {one, 2, api.ErrArg}, {one, 3, api.ErrArg}, {one, 1<<63 + 1, api.ErrArg},
		{deepest, 1<<12 - 1, api.OK}, {deepest, 1<<11 - 1, api.ErrArg}, {deepest, 1<<13 - 1, api.ErrArg}, {deepest, 1<<12 - 2, api.ErrArg}, {deepest, 1<<12 - 1 - 1<<5, api.ErrArg},
		{or, set(0, 1), api.OK}, {or, set(0, 59), api.OK}, {or, set(0), api.ErrArg}, {or, set(0, 58, 59), api.ErrArg}, {or, set(0, 60), api.ErrArg}, {or, set(0, 59, 63), api.ErrArg}, {or, 1<<60 - 1, api.ErrArg},
		{and, 1<<60 - 1, api.OK}, {and, 1<<59 - 1, api.ErrArg}, {and, 1<<60 - 2, api.ErrArg}, {and, 1<<61 - 1, api.ErrArg}, {and, 1<<60 - 1 + 1<<63, api.ErrArg}, {and, 1<<60 - 1 - 1<<30, api.ErrArg},
	} {
		if e := conf.Check(is.a, api.Config{Active: is.m}); e != is.want {
			t.Errorf("Check of %b: error %d, not %d", is.m, e, is.want)
		}
	}
}

// Cf1: which values variables may have: from Lo to Hi, and just 0 behind the last one.
func TestCheckValues(t *testing.T) {
	for many := range api.MaxVars + 1 {
		c := charts.Within(t, "leaf a;")
		c.Vars = []api.Var{{Name: "a", Lo: 3, Hi: 5, Init: 4}, {Name: "b", Lo: -2, Hi: -2, Init: -2}, {Name: "c", Lo: -1000, Hi: -937, Init: -937}, {Name: "d", Lo: 937, Hi: 1000, Init: 937}}[:many]
		a := charts.Atlas(t, c)
		first := conf.First(a)
		for at := range api.MaxVars {
			v := api.Var{}
			if at < many {
				v = c.Vars[at]
			}
			for n := -1002; n <= 1002; n++ {
				checkValue(t, a, first, at, n, v.Lo <= n && n <= v.Hi)
			}
			for _, n := range []int{math.MinInt, math.MinInt + 1, -1 << 32, 1 << 32, math.MaxInt} {
				checkValue(t, a, first, at, n, false)
			}
		}
	}
}

// checkValue holds whether a configuration may be, with another value of one variable, against what must be.
func checkValue(t *testing.T, a *atlas.Atlas, x api.Config, at, n int, may bool) {
	t.Helper()
	x.Vals[at] = n
	if e := conf.Check(a, x); may && e != api.OK || !may && e != api.ErrArg {
		t.Errorf("Check with the values %v: error %d", x.Vals, e)
	}
}

// Cf1: sets filled, by hand.
func TestFillByHand(t *testing.T) {
	a := charts.Atlas(t, charts.Within(t, charts.Sound))
	for _, is := range [][2]uint64{
		{0, 0}, {set(0), set(0, 1)}, {set(1), set(1)},
		{set(2), set(2, 3, 4, 6, 7)}, {set(3), set(3, 4)}, {set(4), set(4)}, {set(5), set(5)}, {set(6), set(6, 7)}, {set(7), set(7)},
		{set(3, 5), set(3, 5)}, {set(2, 5), set(2, 3, 5, 6, 7)}, {set(0, 2), set(0, 2, 3, 4, 6, 7)}, {set(0, 2, 5), set(0, 2, 3, 5, 6, 7)}, {set(1, 6), set(1, 6, 7)},
		// What is further below is not right below.
		{set(0, 5), set(0, 1, 5)}, {set(0, 7), set(0, 1, 7)}, {set(0, 3), set(0, 1, 3, 4)},
		// Two right below an or stay.
		{set(0, 1, 2), set(0, 1, 2, 3, 4, 6, 7)}, {set(3, 4, 5), set(3, 4, 5)}, {set(2, 4, 5), set(2, 3, 4, 5, 6, 7)},
		{255, 255}, {math.MaxUint64, 255}, {^uint64(255), 0}, {1 << 63, 0}, {1<<63 + 1, set(0, 1)}, {1<<8 + 1<<59 + 1<<60 + set(5), set(5)},
	} {
		if got := conf.Fill(a, is[0]); got != is[1] {
			t.Errorf("Fill of %b: %b, not %b", is[0], got, is[1])
		}
	}
}

// Cf1, Cf3: the first configuration, by hand.
func TestFirstByHand(t *testing.T) {
	for s, want := range map[string]api.Config{
		"leaf a;":                   {Active: 1},
		"and a { leaf b; leaf c; }": {Active: 7},
		"or a { or b { leaf c; leaf d; } leaf e; }":  {Active: set(0, 1, 2)},
		"or a { and b { leaf c; leaf d; } leaf e; }": {Active: set(0, 1, 2, 3)},
		"and a { or b { leaf c; leaf d; } leaf e; }": {Active: set(0, 1, 2, 4)},
		"or a { leaf b; and c { leaf d; leaf e; } }": {Active: set(0, 1)},
		charts.Sound: {Active: set(0, 1), Vals: [4]int{0, -937}},
		"var a -3 .. 3 = 2; var b 7 .. 8 = 7; leaf a;":                                        {Active: 1, Vals: [4]int{2, 7}},
		"var a -3 .. 3 = -2; var b 7 .. 8 = 7; var c -1 .. 0 = -1; var d 1 .. 5 = 5; leaf a;": {Active: 1, Vals: [4]int{-2, 7, -1, 5}},
	} {
		a := charts.Atlas(t, charts.Within(t, s))
		if got := conf.First(a); got != want || conf.Check(a, got) != api.OK {
			t.Errorf("First of %s: %v, not %v", s, got, want)
		}
	}
	for want, c := range map[uint64]api.Chart{1<<12 - 1: charts.Deepest(), 3: charts.Most(api.KdOr), 1<<60 - 1: charts.Most(api.KdAnd)} {
		a := charts.Atlas(t, c)
		if got := conf.First(a); got != (api.Config{Active: want}) || conf.Check(a, got) != api.OK {
			t.Errorf("First: %v, not %b", got, want)
		}
	}
}

// Cf2: the leaves and the Env of configurations, by hand.
func TestNamesByHand(t *testing.T) {
	c := charts.Within(t, "var x 0 .. 1 = 1; var y -5 .. 5 = 5; or z { leaf y; and x { or f { leaf e; leaf b; } leaf a; } }")
	a := charts.Atlas(t, c)
	for _, is := range []struct {
		x          api.Config
		leaves, in []string
	}{
		{conf.First(a), []string{"y"}, []string{"z", "y"}},
		{api.Config{Active: set(0, 2, 3, 4, 6), Vals: [4]int{1, -5}}, []string{"e", "a"}, []string{"z", "x", "f", "e", "a"}},
		{api.Config{Active: set(0, 2, 3, 5, 6), Vals: [4]int{0, 4}}, []string{"b", "a"}, []string{"z", "x", "f", "b", "a"}},
		// These may not be.
		{api.Config{}, nil, nil},
		{api.Config{Active: 1 << 63, Vals: [4]int{1, 2, 3, 4}}, nil, nil},
		{api.Config{Active: 1<<63 + 1<<7 + set(4), Vals: [4]int{math.MinInt, math.MaxInt, -1, 1}}, []string{"e"}, []string{"e"}},
		{api.Config{Active: math.MaxUint64, Vals: [4]int{9, 9, 9, 9}}, []string{"y", "e", "b", "a"}, []string{"z", "y", "x", "f", "e", "b", "a"}},
	} {
		if got := conf.Leaves(a, is.x); !slices.Equal(got, is.leaves) {
			t.Errorf("Leaves of %v: %q, not %q", is.x, got, is.leaves)
		}
		if got := conf.Env(a, is.x); !sameEnv(got, api.Env{Vars: c.Vars, Vals: is.x.Vals, In: is.in}) {
			t.Errorf("Env of %v: %v", is.x, got)
		}
	}
}

// Cf2: each of these is less than those behind it, and no other one.
func TestLess(t *testing.T) {
	rising := []api.Config{
		{Vals: [4]int{math.MinInt, math.MaxInt, math.MaxInt, math.MaxInt}},
		{Vals: [4]int{-2, 9, 9, 9}},
		{Vals: [4]int{-1, math.MinInt}},
		{},
		{Vals: [4]int{0, 0, 0, 1}},
		{Vals: [4]int{0, 0, 1, math.MinInt}},
		{Vals: [4]int{0, 1, -1, 5}},
		{Vals: [4]int{math.MaxInt, math.MaxInt, math.MaxInt, math.MaxInt}},
		{Active: 1, Vals: [4]int{-5, -5, -5, -5}},
		{Active: 1, Vals: [4]int{-5, -5, -5, -4}},
		{Active: 1, Vals: [4]int{-5, -5, -3, -6}},
		{Active: 1, Vals: [4]int{-5, -3, -6, -6}},
		{Active: 1, Vals: [4]int{3, -6, -6, -6}},
		{Active: 2},
		{Active: 3, Vals: [4]int{-1}},
		{Active: 1 << 59},
		{Active: 1 << 62},
		{Active: 1<<63 - 1, Vals: [4]int{1}},
		{Active: 1 << 63},
		{Active: 1 << 63, Vals: [4]int{0, 0, 0, math.MaxInt}},
		{Active: 1<<63 + 1, Vals: [4]int{math.MinInt}},
		{Active: math.MaxUint64 - 1},
		{Active: math.MaxUint64},
	}
	for i, x := range rising {
		for k, y := range rising {
			if got := conf.Less(x, y); got != (i < k) {
				t.Errorf("Less(%v, %v): %t", x, y, got)
			}
		}
	}
}

// Cf1, Cf2, R1: of an Atlas that New did not give there is nothing.
func TestNobodys(t *testing.T) {
	for _, a := range charts.Nobodys() {
		for _, x := range []api.Config{{}, {Active: 1}, {Active: math.MaxUint64, Vals: [4]int{1, -1, math.MinInt, math.MaxInt}}, {Vals: [4]int{0, 0, 0, 1}}} {
			for range 2 {
				if e := conf.Check(a, x); e != api.ErrState {
					t.Errorf("Check of %v: error %d", x, e)
				}
				if got := conf.Fill(a, x.Active); got != 0 {
					t.Errorf("Fill of %b: %b", x.Active, got)
				}
				if got := conf.First(a); got != (api.Config{}) {
					t.Errorf("First: %v", got)
				}
				if leaves, env := conf.Leaves(a, x), conf.Env(a, x); len(leaves) != 0 || !sameEnv(env, api.Env{}) {
					t.Errorf("of %v: %q, %v", x, leaves, env)
				}
			}
		}
	}
}
