package format_test

import (
	"math"
	"reflect"
	"slices"
	"testing"

	"semblance/api"
	"semblance/charts"
	"semblance/format"
	"semblance/syntax"
)

// turn turns all that stands at a place, one thing at a time, and asks each time; it says whether what is asked is the same as what was. Then all is as it was.
func turn(v reflect.Value, ask func(same bool)) {
	switch v.Kind() {
	case reflect.Struct:
		for at := range v.NumField() {
			turn(v.Field(at), ask)
		}
	case reflect.Slice:
		for at := range v.Len() {
			turn(v.Index(at), ask)
		}
		turnList(v, ask)
	default:
		turnOne(v, ask)
	}
}

// turnOne turns a text, a number, or what is true or false.
func turnOne(v reflect.Value, ask func(same bool)) {
	var others []any
	switch was := v.Interface().(type) {
	case string:
		others = []any{"", was + "z", "z" + was, was + " ", was + "\x00", was[:max(len(was)-1, 0)], "or", "\xff", was + was, "A"}
	case int:
		others = []any{was + 1, was - 1, -was, 0, 99, was + 1<<32, was ^ math.MinInt, math.MaxInt, math.MinInt}
	case bool:
		others = []any{true, false}
	}
	was := v.Interface()
	for _, other := range others {
		v.Set(reflect.ValueOf(other))
		ask(other == was)
	}
	v.Set(reflect.ValueOf(was))
}

// turnList turns how many things a list has, and their order; an empty one is turned to none and back.
func turnList(v reflect.Value, ask func(same bool)) {
	was, many := reflect.ValueOf(v.Interface()), v.Len()
	set := func(same bool, parts ...reflect.Value) {
		l := reflect.MakeSlice(v.Type(), 0, many+1)
		for _, part := range parts {
			l = reflect.AppendSlice(l, part)
		}
		v.Set(l)
		ask(same)
	}
	zero := reflect.MakeSlice(v.Type(), 1, 1)
	for at := range many {
		ahead, one, behind := was.Slice(0, at), was.Slice(at, at+1), was.Slice(at+1, many)
		set(false, ahead, behind)
		set(false, ahead, one, one, behind)
		set(false, ahead, zero, one, behind)
		set(false, behind)
		for to := at + 1; to < many; to++ {
			other := was.Slice(to, to+1)
			// Both may be the same.
			set(reflect.DeepEqual(one.Interface(), other.Interface()), ahead, other, was.Slice(at+1, to), one, was.Slice(to+1, many))
		}
	}
	set(false, was, zero)
	set(true, was)
	v.Set(reflect.Zero(v.Type()))
	ask(many == 0)
	v.Set(was)
}

// checkTurned: a chart is the same as a copy of it, and not as one in which just one thing is turned; it is said how often that was asked.
func checkTurned(t *testing.T, c api.Chart) int {
	t.Helper()
	// No list is nil in it.
	turned := charts.Roomy(c)
	asked := 0
	turn(reflect.ValueOf(&turned).Elem(), func(same bool) {
		asked++
		if got := format.Same(c, turned); got != same {
			t.Errorf("Same(%v, %v): %t", c, turned, got)
		}
		if format.Same(turned, c) != same {
			t.Errorf("Same(%v, %v): not %t", turned, c, same)
		}
	})
	if !format.Same(c, turned) || !format.Same(turned, c) || !format.Same(c, c) {
		t.Errorf("Same(%v, %v): false", c, turned)
	}
	return asked
}

// odd are charts that no text tells, most of which may not be told, none the same as another one.
func odd() []api.Chart {
	one := func(s api.State) api.Chart { return api.Chart{States: []api.State{s}} }
	own := func(t api.Trans) api.Chart { return one(api.State{Trans: []api.Trans{t}}) }
	act, other := api.Act{Name: "x", Any: true}, api.Act{Name: "y", Any: true}
	x := []api.Term{{Op: api.TmVar, Name: "x"}}
	return []api.Chart{
		{}, {Name: "c"}, {Name: "or"}, {Events: []string{""}}, {Events: []string{"", ""}}, {Events: []string{"c"}}, {Events: []string{"a", "b"}}, {Events: []string{"b", "a"}}, {Events: []string{"ab"}}, {Events: []string{"ab", ""}}, {Events: []string{"", "ab"}}, {Events: []string{"a, b"}}, {Events: []string{"a", "b", "c"}}, {Events: []string{"a", "c", "b"}}, {Name: "a", Events: []string{"b"}},
		{Vars: make([]api.Var, 1)}, {Vars: make([]api.Var, 2)}, {Vars: []api.Var{{Name: "c"}}}, {Vars: []api.Var{{Lo: 1}}}, {Vars: []api.Var{{Hi: 1}}}, {Vars: []api.Var{{Init: 1}}}, {Vars: []api.Var{{Lo: 1}, {Hi: 1}}}, {Vars: []api.Var{{Hi: 1}, {Lo: 1}}}, {Vars: []api.Var{{Lo: math.MinInt, Hi: math.MaxInt}}}, {Vars: []api.Var{{Lo: math.MaxInt, Hi: math.MinInt}}},
		{States: make([]api.State, 1)}, {States: make([]api.State, 2)}, one(api.State{Name: "c"}), one(api.State{Kind: 1}), one(api.State{Kind: 2}), one(api.State{Kind: 99}), one(api.State{Parent: -1}), one(api.State{Parent: 1}), {States: []api.State{{Parent: 1}, {Parent: 0}}}, {States: []api.State{{Parent: 0}, {Parent: 1}}},
		one(api.State{Enter: []api.Act{act}}), one(api.State{Exit: []api.Act{act}}), own(api.Trans{Acts: []api.Act{act}}), one(api.State{Enter: []api.Act{act, other}}), one(api.State{Enter: []api.Act{other, act}}), one(api.State{Enter: []api.Act{act}, Exit: []api.Act{other}}), one(api.State{Enter: []api.Act{other}, Exit: []api.Act{act}}), one(api.State{Enter: make([]api.Act, 1)}), one(api.State{Enter: []api.Act{{Name: "x"}}}), one(api.State{Enter: []api.Act{{Name: "x", Expr: x}}}), one(api.State{Enter: []api.Act{{Name: "x", Any: true, Expr: x}}}), one(api.State{Exit: []api.Act{{Name: "x", Any: true, Expr: x}}}),
		own(api.Trans{}), own(api.Trans{Event: "x"}), own(api.Trans{Target: "x"}), own(api.Trans{Guard: x}), own(api.Trans{Acts: []api.Act{{Expr: x}}}), own(api.Trans{Guard: make([]api.Term, 1)}), own(api.Trans{Guard: []api.Term{{Op: api.TmTrue}}}), own(api.Trans{Guard: []api.Term{{Op: api.TmTrue, N: 1}}}), own(api.Trans{Guard: []api.Term{{Op: api.TmTrue, Name: "x"}}}), own(api.Trans{Guard: []api.Term{{Op: api.TmNum, N: -1}}}), own(api.Trans{Guard: slices.Repeat(x, 2)}), one(api.State{Trans: make([]api.Trans, 2)}), {States: []api.State{{Trans: make([]api.Trans, 1)}, {}}}, {States: []api.State{{}, {Trans: make([]api.Trans, 1)}}},
	}
}

// Fm1: Same, of charts that are not the same in just one thing, at each place of a chart; and no list and an empty one, at each place.
func TestSame(t *testing.T) {
	for _, c := range []api.Chart{charts.Rich(t), charts.DoorChart()} {
		if asked := checkTurned(t, c); asked < 300 {
			t.Errorf("asked just %d times of %v", asked, c)
		}
	}
	for _, c := range odd() {
		checkTurned(t, c)
	}
	for seed := range 20 {
		checkTurned(t, charts.Some(seed))
	}
}

// Fm1: Same, of each two of some charts: also of such as may not be told.
func TestSameOfTwo(t *testing.T) {
	all := append(odd(), charts.DoorChart(), charts.Rich(t), charts.Longest(), charts.Long(t, 4000), charts.Long(t, 4001))
	for seed := range 40 {
		all = append(all, charts.Some(seed))
	}
	for i, a := range all {
		for k, b := range all {
			if got := format.Same(a, b); got != (i == k) || format.Same(charts.Roomy(a), b) != got || format.Same(a, charts.Roomy(b)) != got {
				t.Errorf("Same(%v, %v): %t", a, b, got)
			}
		}
	}
}

// Fm1: what is read from texts is the same chart just if the texts have the same form.
func TestSameOfTexts(t *testing.T) {
	for _, c := range []struct {
		a, b string
		want bool
	}{
		{"chart c { leaf a; }", "chart c { leaf a { } } # b", true}, {"chart c { leaf a { auto [(x) + 1]; } }", "chart c{leaf a{auto[x+(1)];}}", true}, {"chart c { var x -0 .. 1 = 0; leaf a; }", "chart c { var x 0 .. 1 = -0; leaf a; }", true}, {charts.Door, door, true},
		{"chart c { leaf a; }", "chart d { leaf a; }", false}, {"chart c { leaf a; }", "chart c { or a; }", false}, {"chart c { leaf a { auto [a - b - c]; } }", "chart c { leaf a { auto [a - (b - c)]; } }", false}, {"chart c { event a, b; leaf a; }", "chart c { event b, a; leaf a; }", false}, {"chart c { leaf a { enter any x; } }", "chart c { leaf a { exit any x; } }", false}, {"chart c { or a { or b { leaf d; } } }", "chart c { or a { or b; leaf d; } }", false}, {"chart c { leaf a { auto; } }", "chart c { leaf a { auto [true]; } }", false}, {"chart c { leaf a { enter x := -0; } }", "chart c { leaf a { enter x := 0; } }", false},
	} {
		a, _, e := syntax.Parse(c.a)
		b, _, f := syntax.Parse(c.b)
		form, _, _ := format.Of(c.a)
		other, _, _ := format.Of(c.b)
		if e != api.OK || f != api.OK || format.Same(a, b) != c.want || (form == other) != c.want {
			t.Errorf("%q and %q: not %t", c.a, c.b, c.want)
		}
	}
}

// R3: Same writes to nothing that it is handed, nor behind the end of its lists.
func TestHandedIn(t *testing.T) {
	all := append(odd(), charts.DoorChart(), charts.Rich(t), charts.Long(t, 4000))
	for seed := range 100 {
		all = append(all, charts.Some(seed))
	}
	for at, c := range all {
		for _, other := range []api.Chart{c, all[(at+1)%len(all)]} {
			a, b := charts.Roomy(c), charts.Roomy(other)
			first := format.Same(a, b)
			if again := format.Same(a, b); again != first {
				t.Errorf("Same(%v, %v): %t, then %t", c, other, first, again)
			}
			if !charts.Same(charts.Behind(a), charts.Behind(charts.Roomy(c))) || !charts.Same(charts.Behind(b), charts.Behind(charts.Roomy(other))) {
				t.Errorf("Same(%v, %v): what was handed in is now %v, %v", c, other, a, b)
			}
		}
	}
}

// P1: Same of great charts ends, without a panic; they may differ just at their ends.
func TestSameOfGreat(t *testing.T) {
	const many = 1 << 18
	for which := range 7 {
		// A great chart, and what turns the last thing in it.
		great := func() (api.Chart, func()) {
			c := charts.Rich(t)
			s := &c.States[2]
			switch which {
			case 0:
				c.Events = make([]string, many)
				return c, func() { c.Events[many-1] = "z" }
			case 1:
				c.Vars = make([]api.Var, many)
				return c, func() { c.Vars[many-1].Init = 1 }
			case 2:
				c.States = make([]api.State, many)
				return c, func() { c.States[many-1].Parent = many }
			case 3:
				s.Enter = make([]api.Act, many)
				return c, func() { s.Enter[many-1].Any = true }
			case 4:
				s.Exit = make([]api.Act, many)
				return c, func() { s.Exit[many-1].Name = "z" }
			case 5:
				s.Trans = make([]api.Trans, many)
				return c, func() { s.Trans[many-1].Target = "z" }
			}
			s.Trans[1].Guard = make([]api.Term, many)
			return c, func() { s.Trans[1].Guard[many-1].N = 1 }
		}
		a, _ := great()
		b, turnLast := great()
		if !format.Same(a, b) {
			t.Errorf("Same of great charts: false")
		}
		if turnLast(); format.Same(a, b) || format.Same(b, a) {
			t.Errorf("Same of great charts whose last things differ: true")
		}
	}
}
