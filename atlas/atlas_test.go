package atlas_test

import (
	"slices"
	"sort"
	"strconv"
	"strings"
	"sync"
	"testing"

	"semblance/api"
	"semblance/atlas"
	"semblance/charts"
	"semblance/sound"
)

// tables are what an atlas must answer of a chart's states, by their places, and its events.
type tables struct {
	kids         [][]int
	above, below []uint64
	depth        []int
	events       []string
}

// another is a chart's tables by another reading of the words: a state is below another one, if one of its parents is that one.
func another(c api.Chart) tables {
	many := len(c.States)
	w := tables{make([][]int, many), make([]uint64, many), make([]uint64, many), make([]int, many), nil}
	for at, s := range c.States {
		w.below[at] += 1 << at
		w.depth[at]++
		for up := s.Parent; up != -1; up = c.States[up].Parent {
			w.above[at] += 1 << up
			w.below[up] += 1 << at
			w.depth[at]++
		}
		if s.Parent != -1 {
			w.kids[s.Parent] = append(w.kids[s.Parent], at)
		}
	}
	w.events = append(w.events, c.Events...)
	sort.Slice(w.events, func(i, k int) bool { return strings.Compare(w.events[i], w.events[k]) < 0 })
	return w
}

// checkTables holds all that an atlas answers of its states and events against what it must be.
func checkTables(t *testing.T, a *atlas.Atlas, w tables) {
	t.Helper()
	for at := range w.depth {
		if got := a.Kids(at); !slices.Equal(got, w.kids[at]) {
			t.Errorf("Kids(%d): %v, not %v", at, got, w.kids[at])
		}
		if got := a.Above(at); got != w.above[at] {
			t.Errorf("Above(%d): %b, not %b", at, got, w.above[at])
		}
		if got := a.Below(at); got != w.below[at] {
			t.Errorf("Below(%d): %b, not %b", at, got, w.below[at])
		}
		if got := a.Depth(at); got != w.depth[at] {
			t.Errorf("Depth(%d): %d, not %d", at, got, w.depth[at])
		}
	}
	checkNoPlaces(t, a, charts.NoPlaces(len(w.depth)))
	if got := a.Events(); !slices.Equal(got, w.events) {
		t.Errorf("Events: %q, not %q", got, w.events)
	}
}

// checkNoPlaces: of places that there are not an atlas tells nothing.
func checkNoPlaces(t *testing.T, a *atlas.Atlas, places []int) {
	t.Helper()
	for _, at := range places {
		if kids, above, below, deep := a.Kids(at), a.Above(at), a.Below(at), a.Depth(at); len(kids) != 0 || above != 0 || below != 0 || deep != 0 {
			t.Errorf("of the place %d: %v, %b, %b, %d", at, kids, above, below, deep)
		}
	}
}

// checkChart holds whether New gave an atlas, its chart, and the places of names against what they must be.
func checkChart(t *testing.T, a *atlas.Atlas, c api.Chart) {
	t.Helper()
	if !a.Good() {
		t.Errorf("Good of %v: false", c)
	}
	if got := a.Chart(); !charts.Same(got, c) {
		t.Errorf("Chart: %v, not %v", got, c)
	}
	for at, s := range c.States {
		if got := a.Place(s.Name); got != at {
			t.Errorf("Place(%q): %d, not %d", s.Name, got, at)
		}
	}
	for _, name := range strangers(c) {
		if got := a.Place(name); got != -1 {
			t.Errorf("Place(%q): %d", name, got)
		}
	}
}

// strangers are texts that no state of a chart has as its name: others that the chart has, such as are nearly a state's, and none at all.
func strangers(c api.Chart) []string {
	all := append([]string{"", c.Name, "or", "leaf", "A", "nobody", "\xff", "-1", "0", strings.Repeat("a", 1<<16)}, c.Events...)
	for _, v := range c.Vars {
		all = append(all, v.Name)
	}
	for _, s := range c.States {
		all = append(all, s.Name+"x", s.Name+" ", " "+s.Name, s.Name[1:], s.Name[:len(s.Name)-1], strings.ToUpper(s.Name))
	}
	var l []string
	for _, name := range all {
		if !slices.ContainsFunc(c.States, func(s api.State) bool { return s.Name == name }) {
			l = append(l, name)
		}
	}
	return l
}

// check holds all that the atlas of a chart answers against what it must be, and asks for all of it twice.
func check(t *testing.T, c api.Chart, w tables) {
	t.Helper()
	a := charts.Atlas(t, c)
	for range 2 {
		checkChart(t, a, c)
		checkTables(t, a, w)
	}
}

// At1: the chapter's example, and the document's chart.
func TestExamples(t *testing.T) {
	w := tables{[][]int{{1, 2}, {}, nil}, []uint64{0, 1, 1}, []uint64{7, 2, 4}, []int{1, 2, 2}, nil}
	check(t, charts.Within(t, "or a { leaf b; leaf c; }"), w)
	w.events = []string{"go"}
	check(t, charts.DoorChart(), w)
	a := charts.Atlas(t, charts.DoorChart())
	if a.Below(0) != 7 || a.Above(2) != 1 || a.Place("house") != 0 || a.Place("shut") != 1 || a.Place("open") != 2 || a.Place("go") != -1 || a.Place("n") != -1 || a.Place("door") != -1 {
		t.Error("the document's chart by hand")
	}
}

// At1: by hand: a chart of one state, and one with or and and within one another.
func TestByHand(t *testing.T) {
	check(t, charts.Within(t, "leaf a;"), tables{[][]int{nil}, []uint64{0}, []uint64{1}, []int{1}, nil})
	check(t, charts.Within(t, charts.Sound), tables{
		kids:   [][]int{{1, 2}, nil, {3, 6}, {4, 5}, nil, nil, {7}, nil},
		above:  []uint64{0, 1, 1, 5, 13, 13, 5, 69},
		below:  []uint64{255, 2, 252, 56, 16, 32, 192, 128},
		depth:  []int{1, 2, 2, 3, 4, 4, 3, 4},
		events: []string{"a", "b"},
	})
}

// At1: states as deep as they may be, one within the other, the last one a leaf.
func TestDeepest(t *testing.T) {
	a := charts.Atlas(t, charts.Deepest())
	for at := range 12 {
		kids := []int{at + 1}
		if at == 11 {
			kids = nil
		}
		if !slices.Equal(a.Kids(at), kids) || a.Above(at) != 1<<at-1 || a.Below(at) != 1<<12-1<<at || a.Depth(at) != at+1 || a.Place("s"+strconv.Itoa(at)) != at {
			t.Errorf("of the place %d: %v, %b, %b, %d", at, a.Kids(at), a.Above(at), a.Below(at), a.Depth(at))
		}
	}
	checkNoPlaces(t, a, charts.NoPlaces(12))
}

// At1: as many states as may be, all but the first one right below that.
func TestMost(t *testing.T) {
	for _, kind := range []int{api.KdOr, api.KdAnd} {
		a := charts.Atlas(t, charts.Most(kind))
		var kids []int
		for at := 1; at < 60; at++ {
			kids = append(kids, at)
		}
		if !slices.Equal(a.Kids(0), kids) || a.Above(0) != 0 || a.Below(0) != 1<<60-1 || a.Depth(0) != 1 || a.Place("top") != 0 {
			t.Errorf("of the place 0: %v, %b, %b, %d", a.Kids(0), a.Above(0), a.Below(0), a.Depth(0))
		}
		for _, at := range kids {
			if len(a.Kids(at)) != 0 || a.Above(at) != 1 || a.Below(at) != 1<<at || a.Depth(at) != 2 || a.Place("s"+strconv.Itoa(at)) != at {
				t.Errorf("of the place %d: %v, %b, %b, %d", at, a.Kids(at), a.Above(at), a.Below(at), a.Depth(at))
			}
		}
		checkNoPlaces(t, a, charts.NoPlaces(60))
	}
}

// At1: events in the order of their bytes, however they stand: a digit is ahead of _, and that ahead of a letter; a name ahead of those that it begins.
func TestEvents(t *testing.T) {
	rising := []string{"a", "a10", "a9", "a_", "a_b", "aa", "b", "z_9"}
	orders := [][]int{{0, 1, 2, 3, 4, 5, 6, 7}, {7, 6, 5, 4, 3, 2, 1, 0}, {3, 1, 4, 7, 5, 0, 2, 6}, {5, 2}, {6, 1, 0}, {4}, {4, 5}, {2, 1}, nil}
	for _, order := range orders {
		c := charts.Within(t, "leaf a;")
		var want []string
		for at, name := range rising {
			if slices.Contains(order, at) {
				want = append(want, name)
			}
		}
		for _, at := range order {
			c.Events = append(c.Events, rising[at])
		}
		if got := charts.Atlas(t, c).Events(); !slices.Equal(got, want) {
			t.Errorf("Events of %q: %q, not %q", c.Events, got, want)
		}
		checkChart(t, charts.Atlas(t, c), c)
	}
}

// At1: a name that the chart has elsewhere too is a state's just if a state has it.
func TestPlace(t *testing.T) {
	a := charts.Atlas(t, charts.Within(t, "event b, e; var d 0 .. 0 = 0; var v 0 .. 0 = 0; or ab { leaf b; leaf abc; leaf d; leaf a; }"))
	for name, want := range map[string]int{"ab": 0, "b": 1, "abc": 2, "d": 3, "a": 4, "e": -1, "v": -1, "c": -1, "": -1, "abcd": -1, "or": -1, "AB": -1} {
		if got := a.Place(name); got != want {
			t.Errorf("Place(%q): %d, not %d", name, got, want)
		}
	}
}

// At1: a chart that is not sound has no atlas.
func TestNotSound(t *testing.T) {
	all := append(charts.Odd(t), charts.Turned(t, charts.Door)...)
	for _, one := range slices.Concat(charts.EachRule(), charts.SeveralRules()) {
		all = append(all, charts.Within(t, one.Text))
	}
	for seed := range 300 {
		all = append(all, charts.Some(seed))
	}
	met := 0
	for _, c := range all {
		flaws, e := sound.Of(c)
		if e == api.OK && len(flaws) == 0 {
			check(t, c, another(c))
			continue
		}
		met++
		if a, e := atlas.New(c); a != nil || e != api.ErrArg {
			t.Errorf("New(%v): %v, error %d", c, a, e)
		}
	}
	if met < 300 {
		t.Errorf("so many not sound: %d", met)
	}
}

// At1, R1: an Atlas that New did not give answers nothing.
func TestNobodys(t *testing.T) {
	for _, a := range charts.Nobodys() {
		for range 2 {
			if a.Good() || !charts.Same(a.Chart(), api.Chart{}) || len(a.Events()) != 0 {
				t.Errorf("%v, %v, %q", a.Good(), a.Chart(), a.Events())
			}
			for _, name := range []string{"", "a", "or"} {
				if got := a.Place(name); got != -1 {
					t.Errorf("Place(%q): %d", name, got)
				}
			}
			checkNoPlaces(t, a, append(charts.NoPlaces(0), 0, 1, 2, 59))
		}
	}
}

// At1: as another reading of the words says.
func TestMany(t *testing.T) {
	deepest, most := 0, 0
	for _, c := range charts.Several(t) {
		w := another(c)
		check(t, c, w)
		deepest, most = max(deepest, slices.Max(w.depth)), max(most, len(c.States))
	}
	if deepest != 12 || most != 60 {
		t.Errorf("so deep, and so many: %d, %d", deepest, most)
	}
}

// At2: one is above another one just if that one is below it.
func TestAboveBelow(t *testing.T) {
	for _, c := range charts.Several(t) {
		a := charts.Atlas(t, c)
		for i := range c.States {
			for k := range c.States {
				above, below := a.Above(k)>>i&1 == 1, a.Below(i)>>k&1 == 1
				if i == k && (above || !below) || i != k && above != below {
					t.Errorf("of %d and %d in %v: above %t, below %t", i, k, c, above, below)
				}
			}
		}
	}
}

// asks are all that may be asked of an atlas; what it answers is told as a text, and then turned.
func asks() []func(a *atlas.Atlas) string {
	set := func(m uint64) string { return strconv.FormatUint(m, 2) }
	return []func(a *atlas.Atlas) string{
		func(a *atlas.Atlas) string { return strconv.FormatBool(a.Good()) },
		func(a *atlas.Atlas) string {
			c := a.Chart()
			defer charts.Wreck(c)
			return charts.Written(c, charts.Style{})
		},
		func(a *atlas.Atlas) string { return strconv.Itoa(a.Place("e")) + " " + strconv.Itoa(a.Place("x")) },
		func(a *atlas.Atlas) string {
			return told(a.Kids(0), strconv.Itoa) + told(a.Kids(2), strconv.Itoa) + told(a.Kids(9), strconv.Itoa)
		},
		func(a *atlas.Atlas) string { return set(a.Above(4)) + " " + set(a.Above(-1)) },
		func(a *atlas.Atlas) string { return set(a.Below(2)) + " " + set(a.Below(5)) },
		func(a *atlas.Atlas) string { return strconv.Itoa(a.Depth(4)) + " " + strconv.Itoa(a.Depth(5)) },
		func(a *atlas.Atlas) string { return told(a.Events(), strings.Clone) },
	}
}

// told is a list as a text; the list is cleared, with the room behind it.
func told[T any](l []T, text func(T) string) string {
	s := ""
	for _, one := range l {
		s += text(one) + ";"
	}
	clear(l[:cap(l)])
	return s
}

// asked is the chart that the asks are of, and what must come of them.
func asked(t *testing.T) (api.Chart, []string) {
	t.Helper()
	s := "chart c { event y , a ; var x 0 .. 1 = 0 ; or b { leaf d { on a [ x < 1 ] / x := x + 1 -> e ; } and e { enter x := 0 ; leaf f ; leaf g ; } } }"
	return charts.Within(t, s[len("chart c {"):len(s)-1]), []string{"true", s, "2 -1", "1;2;3;4;", "101 0", "11100 0", "3 0", "a;y;"}
}

// orders are all orders of so many things.
func orders(many int) [][]int {
	if many == 0 {
		return [][]int{nil}
	}
	var all [][]int
	for _, l := range orders(many - 1) {
		for at := 0; at < many; at++ {
			all = append(all, slices.Insert(slices.Clone(l), at, many-1))
		}
	}
	return all
}

// R4: what is asked for in any order, and again, is the same.
func TestOrders(t *testing.T) {
	c, want := asked(t)
	all := asks()
	for _, order := range orders(len(all)) {
		a := charts.Atlas(t, c)
		for _, at := range slices.Concat(order, order[:2], order) {
			if got := all[at](a); got != want[at] {
				t.Fatalf("in the order %v, what is at %d: %q, not %q", order, at, got, want[at])
			}
		}
	}
}

// R4: many who ask at once, each another thing first, are told the same.
func TestAtOnce(t *testing.T) {
	c, want := asked(t)
	all := asks()
	for range 100 {
		a := charts.Atlas(t, c)
		got := make([][]string, 32)
		var each sync.WaitGroup
		for at := range got {
			each.Go(func() {
				for k := range all {
					got[at] = append(got[at], all[(at+k)%len(all)](a))
				}
			})
		}
		each.Wait()
		for at, l := range got {
			if !slices.Equal(l, slices.Concat(want[at%len(all):], want[:at%len(all)])) {
				t.Errorf("asked at once, %d: %q", at, l)
			}
		}
	}
}

// At1: tables that were made are not made again.
func TestOnce(t *testing.T) {
	a := charts.Atlas(t, charts.Within(t, charts.Sound))
	if many := testing.AllocsPerRun(10, func() { a.Place("i"); a.Above(7); a.Below(7); a.Depth(7) }); many != 0 {
		t.Errorf("asked again, memory is taken %f times", many)
	}
}

// R3: New writes to nothing that it is handed, and an atlas hangs on nothing that becomes of that.
func TestHandedIn(t *testing.T) {
	for _, was := range charts.Several(t) {
		c, w := charts.Roomy(was), another(was)
		a, b := charts.Atlas(t, c), charts.Atlas(t, c)
		for range 2 {
			checkChart(t, a, was)
			checkTables(t, a, w)
		}
		if !charts.Same(charts.Behind(c), charts.Behind(charts.Roomy(was))) {
			t.Errorf("what was handed in, %v, is now %v", was, c)
		}
		charts.Wreck(c)
		for _, one := range []*atlas.Atlas{a, b} {
			checkChart(t, one, was)
			checkTables(t, one, w)
		}
	}
	for _, c := range charts.Odd(t) {
		handed := charts.Roomy(c)
		atlas.New(handed)
		if !charts.Same(charts.Behind(handed), charts.Behind(charts.Roomy(c))) {
			t.Errorf("what was handed in, %v, is now %v", c, handed)
		}
	}
}

// R3: what was answered stays as it was, whatever is asked later, and whatever becomes of other answers; so does the atlas.
func TestAnswered(t *testing.T) {
	for _, c := range charts.Several(t) {
		w := another(c)
		a := charts.Atlas(t, c)
		chart, events := a.Chart(), a.Events()
		var kids [][]int
		for at := range c.States {
			kids = append(kids, a.Kids(at))
		}
		charts.Wreck(a.Chart())
		told(a.Events(), strings.Clone)
		for at := range c.States {
			told(a.Kids(at), strconv.Itoa)
		}
		checkChart(t, a, c)
		checkTables(t, a, w)
		if !charts.Same(chart, c) || !slices.Equal(events, w.events) || !slices.EqualFunc(kids, w.kids, slices.Equal) {
			t.Errorf("what was answered of %v is now %v, %q, %v", c, chart, events, kids)
		}
	}
}

// P1: charts that are far too great have no atlas; that ends, without a panic.
func TestGreat(t *testing.T) {
	const many = 1 << 17
	one := charts.DoorChart()
	one.States = slices.Repeat(one.States, many)
	other := charts.DoorChart()
	other.States[1].Trans = slices.Repeat([]api.Trans{{Guard: slices.Repeat([]api.Term{{Op: api.TmNot}}, many)}}, many)
	for _, c := range []api.Chart{one, other, {Events: make([]string, many)}, {Name: strings.Repeat("a", many)}} {
		if a, e := atlas.New(c); a != nil || e != api.ErrArg {
			t.Errorf("New of a great chart: %v, error %d", a, e)
		}
	}
}
