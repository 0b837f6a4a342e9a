package shape_test

import (
	"math"
	"slices"
	"testing"

	"semblance/api"
	"semblance/shape"
)

// made is states by their kinds (l a leaf, o an or, a an and), and their Parents.
func made(kinds string, parents ...int) []api.State {
	l := make([]api.State, len(kinds))
	for i, c := range []byte(kinds) {
		l[i].Kind = map[byte]int{'l': 1, 'o': 2, 'a': 3}[c]
		l[i].Parent = parents[i]
	}
	return l
}

// house is an or, several levels deep, with more than one way down.
//
//	0 or
//	  1 leaf
//	  2 and
//	    3 or
//	      4 leaf
//	      5 leaf
//	    6 or
//	      7 leaf
//	      8 and
//	  9 or
//	    10 leaf
//	  11 leaf
func house() []api.State {
	return made("olaollolaoll", -1, 0, 0, 2, 3, 3, 2, 6, 6, 0, 9, 0)
}

// chain is so many states, each but the first one below the one ahead; the last one is a leaf.
func chain(many int) []api.State {
	l := make([]api.State, many)
	for i := range l {
		l[i] = api.State{Kind: api.KdOr + i%2, Parent: i - 1}
	}
	l[many-1].Kind = api.KdLeaf
	return l
}

// fan is so many states, all but the first one leaves right below it.
func fan(many int) []api.State {
	l := make([]api.State, many)
	for i := range l {
		l[i] = api.State{Kind: api.KdLeaf}
	}
	l[0] = api.State{Kind: api.KdAnd, Parent: -1}
	return l
}

// comb is a chain of ors, from each of which a leaf hangs, too, behind what is deeper.
func comb(deep int) []api.State {
	l := chain(deep)
	l[deep-1].Kind = api.KdAnd
	for i := deep - 1; i >= 0; i-- {
		l = append(l, api.State{Kind: api.KdLeaf, Parent: i})
	}
	return l
}

// many is states that Check takes of each number up to the most, by turns in which the next one hangs lower or higher.
func many() [][]api.State {
	all := [][]api.State{house(), chain(1), chain(12), fan(2), fan(60), comb(11)}
	seed := uint32(1)
	roll := func(below int) int {
		seed = seed*1664525 + 1013904223
		return int(seed>>8) % below
	}
	for size := 1; size <= 60; size++ {
		l := []api.State{{Kind: api.KdOr + roll(2), Parent: -1}}
		for len(l) < size {
			// The one ahead, and those above it, are where the next one may hang.
			at := len(l) - 1
			for n := roll(4); n > 0 && l[at].Parent >= 0; n-- {
				at = l[at].Parent
			}
			if l[at].Kind == api.KdLeaf {
				at = l[at].Parent
			}
			l = append(l, api.State{Kind: api.KdLeaf + roll(3), Parent: at})
			if levels(l) >= 12 {
				l[len(l)-1].Kind = api.KdLeaf
			}
		}
		all = append(all, l)
	}
	return all
}

// levels is the depth of the last state, counted.
func levels(l []api.State) int {
	n := 0
	for at := len(l) - 1; at >= 0; at = l[at].Parent {
		n++
	}
	return n
}

// reading is states in another form: gone through from the first one down, each with those below it ahead of the next one.
type reading struct {
	order []int   // the places, as they are come to
	kids  [][]int // of each place
	above [][]int // of each place, the nearest first
	end   []int   // of each place
}

// read is states gone through, by their Parents alone; the first one's must be -1.
func read(l []api.State) *reading {
	r := &reading{kids: make([][]int, len(l)), above: make([][]int, len(l)), end: make([]int, len(l))}
	var down func(at int, above []int)
	down = func(at int, above []int) {
		r.order = append(r.order, at)
		r.above[at] = above
		for k := range l {
			if l[k].Parent == at {
				r.kids[at] = append(r.kids[at], k)
				down(k, slices.Concat([]int{at}, above))
			}
		}
		r.end[at] = len(r.order)
	}
	down(0, nil)
	return r
}

// upTo is a place and those above it.
func (r *reading) upTo(i int) []int { return slices.Concat([]int{i}, r.above[i]) }

// meet is the deepest of all that are each of both, or above it.
func (r *reading) meet(i, k int) int {
	found, deep := -1, -1
	for at := range r.above {
		if slices.Contains(r.upTo(i), at) && slices.Contains(r.upTo(k), at) && len(r.above[at]) > deep {
			found, deep = at, len(r.above[at])
		}
	}
	return found
}

// fault is Check's error, by that other reading: states may stand so, if they are come to as they stand.
func fault(l []api.State) api.Errno {
	if len(l) > 60 {
		return api.ErrFull
	}
	if len(l) == 0 || l[0].Parent != -1 {
		return api.ErrArg
	}
	r, deep := read(l), false
	for i, s := range l {
		if i >= len(r.order) || r.order[i] != i || s.Kind != 1 && s.Kind != 2 && s.Kind != 3 || s.Kind == 1 && len(r.kids[i]) > 0 {
			return api.ErrArg
		}
		deep = deep || len(r.above[i]) >= 12
	}
	if deep {
		return api.ErrDeep
	}
	return api.OK
}

// edges are places that are none of states, the farthest, too.
func edges(l []api.State) []int {
	return []int{math.MinInt, math.MinInt + 1, -1 << 32, -61, -2, -1, len(l), len(l) + 1, 64, 1 << 32, math.MaxInt - 1, math.MaxInt}
}

// places are all of states, and such that are none.
func places(l []api.State) []int {
	all := edges(l)
	for i := range l {
		all = append(all, i)
	}
	return all
}

// checkPlace: what the calls but Check and Meet tell at a place.
func checkPlace(t *testing.T, l []api.State, i int, kids, above []int, depth, end int) {
	t.Helper()
	if got := shape.Kids(l, i); !slices.Equal(got, kids) {
		t.Errorf("Kids(%v, %d): %v, not %v", l, i, got, kids)
	}
	if got := shape.Above(l, i); !slices.Equal(got, above) {
		t.Errorf("Above(%v, %d): %v, not %v", l, i, got, above)
	}
	if got := shape.Depth(l, i); got != depth {
		t.Errorf("Depth(%v, %d): %d, not %d", l, i, got, depth)
	}
	if got := shape.End(l, i); got != end {
		t.Errorf("End(%v, %d): %d, not %d", l, i, got, end)
	}
}

// checkMeet: Meet is that, in either order.
func checkMeet(t *testing.T, l []api.State, i, k, want int) {
	t.Helper()
	if got := shape.Meet(l, i, k); got != want {
		t.Errorf("Meet(%v, %d, %d): %d, not %d", l, i, k, got, want)
	}
	if got := shape.Meet(l, k, i); got != want {
		t.Errorf("Meet(%v, %d, %d): %d, not %d", l, k, i, got, want)
	}
}

// checkNothing: at those places, and at two of them, all calls but Check tell that there is nothing.
func checkNothing(t *testing.T, l []api.State, at []int) {
	t.Helper()
	for _, i := range at {
		checkPlace(t, l, i, nil, nil, 0, 0)
		for _, k := range at {
			checkMeet(t, l, i, k, -1)
		}
	}
}

// checkFault: Check tells that error, and all other calls tell that there is nothing, at all places.
func checkFault(t *testing.T, l []api.State, want api.Errno) {
	t.Helper()
	if e := shape.Check(l); e != want || want == api.OK {
		t.Errorf("Check(%v): error %d, not %d", l, e, want)
	}
	checkNothing(t, l, places(l))
}

// checkAll holds what all calls tell of states against the other reading.
func checkAll(t *testing.T, l []api.State) {
	t.Helper()
	if e := fault(l); e != api.OK {
		checkFault(t, l, e)
		return
	}
	if e := shape.Check(l); e != api.OK {
		t.Errorf("Check(%v): error %d", l, e)
	}
	r := read(l)
	for i := range l {
		checkPlace(t, l, i, r.kids[i], r.above[i], len(r.above[i])+1, r.end[i])
		for k := range l {
			if got, want := shape.Meet(l, i, k), r.meet(i, k); got != want {
				t.Errorf("Meet(%v, %d, %d): %d, not %d", l, i, k, got, want)
			}
		}
	}
}

// Sh1, Sh2: the chapter's example.
func TestExample(t *testing.T) {
	l := made("oll", -1, 0, 0)
	if e := shape.Check(l); e != api.OK {
		t.Errorf("Check: error %d", e)
	}
	checkPlace(t, l, 0, []int{1, 2}, nil, 1, 3)
	checkPlace(t, l, 1, nil, []int{0}, 2, 2)
	checkPlace(t, l, 2, nil, []int{0}, 2, 3)
	checkMeet(t, l, 1, 2, 0)
}

// Sh1: states that may stand so.
func TestMayStand(t *testing.T) {
	for _, l := range [][]api.State{
		made("l", -1),
		// An or and an and with none below.
		made("o", -1),
		made("a", -1),
		made("oo", -1, 0),
		made("aoa", -1, 0, 0),
		made("oal", -1, 0, 0),
		// With one, and with more, one below the other and side by side.
		made("ol", -1, 0),
		made("al", -1, 0),
		made("all", -1, 0, 0),
		made("ool", -1, 0, 1),
		made("oall", -1, 0, 1, 1),
		made("oalll", -1, 0, 1, 1, 0),
		made("olall", -1, 0, 0, 2, 2),
		made("aoololl", -1, 0, 1, 2, 0, 4, 0),
		// From the deepest one up by one, by two, and to the first one.
		made("ooooll", -1, 0, 1, 2, 3, 3),
		made("ooooll", -1, 0, 1, 2, 3, 2),
		made("ooooll", -1, 0, 1, 2, 3, 1),
		made("ooooll", -1, 0, 1, 2, 3, 0),
		made("oooolol", -1, 0, 1, 2, 3, 1, 5),
		house(),
	} {
		if e := shape.Check(l); e != api.OK {
			t.Errorf("Check(%v): error %d", l, e)
		}
	}
}

// Sh1, Sh2: no states.
func TestNoStates(t *testing.T) {
	checkFault(t, nil, api.ErrArg)
	checkFault(t, []api.State{}, api.ErrArg)
	checkFault(t, house()[:0], api.ErrArg)
}

// Sh1, Sh2: Parents that may not be.
func TestParents(t *testing.T) {
	for _, p := range []int{math.MinInt, -1 << 32, -3, -2, 0, 1, 2, 1 << 32, math.MaxInt} {
		l := made("oll", p, 0, 0)
		checkFault(t, l, api.ErrArg)
		checkFault(t, l[:1], api.ErrArg)
	}
	// Beside the few that may be (of the first one: -1; else that of the one ahead, and of those above that), at each place.
	may := [][]int{{-1}, {0}, {0}, {0, 2}, {0, 2, 3}, {0, 2, 3}, {0, 2, 3}, {0, 2, 6}, {0, 2, 6}, {0, 2, 6, 8}, {0, 9}, {0, 9}}
	for i := range house() {
		for _, p := range []int{math.MinInt, -1 << 32, -13, -12, -11, -2, -1, 0, 1, 2, 3, 4, 5, 6, 7, 8, 9, 10, 11, 12, 13, 1 << 32, math.MaxInt} {
			// None hangs behind on what is turned.
			l := house()[:i+1]
			l[i].Parent = p
			if !slices.Contains(may[i], p) {
				checkFault(t, l, api.ErrArg)
			} else if e := shape.Check(l); e != api.OK {
				t.Errorf("Check(%v): error %d", l, e)
			}
		}
	}
	for _, l := range [][]api.State{
		// A second one without a parent; its own parent; each other's; one behind.
		made("ll", -1, -1),
		made("oo", -1, -1),
		made("oo", -1, 1),
		made("ooo", -1, 2, 1),
		made("ool", -1, 2, 0),
		made("lo", 1, -1),
		// One that has ended: its parent's other one is ahead.
		made("oool", -1, 0, 0, 1),
		made("oolol", -1, 0, 1, 0, 1),
		made("ooolll", -1, 0, 1, 2, 1, 2),
		// Level by level, and the deepest ones first.
		made("aoollll", -1, 0, 0, 1, 1, 2, 2),
		made("llo", 2, 2, -1),
	} {
		checkFault(t, l, api.ErrArg)
	}
}

// Sh1, Sh2: Kinds that may not be, at each place.
func TestKinds(t *testing.T) {
	for i := range house() {
		for _, kind := range []int{math.MinInt, -1 << 32, -3, -2, -1, 0, 4, 5, 257, 258, 259, 1<<32 + 1, 1<<32 + 2, math.MaxInt} {
			l := house()
			l[i].Kind = kind
			checkFault(t, l, api.ErrArg)
			checkFault(t, l[:i+1], api.ErrArg)
		}
	}
	checkFault(t, []api.State{{}}, api.ErrArg)
	checkFault(t, []api.State{{Parent: -1}}, api.ErrArg)
}

// Sh1, Sh2: none stands right below a leaf.
func TestBelowLeaf(t *testing.T) {
	for _, l := range [][]api.State{
		made("ll", -1, 0),
		made("lo", -1, 0),
		made("la", -1, 0),
		made("oll", -1, 0, 1),
		made("olo", -1, 0, 1),
		made("lol", -1, 0, 1),
		made("oalll", -1, 0, 1, 2, 2),
		made("oalol", -1, 0, 1, 1, 2),
		made("oalll", -1, 0, 1, 1, 3),
	} {
		checkFault(t, l, api.ErrArg)
	}
	// Each that has some below it, turned to a leaf.
	for _, i := range []int{0, 2, 3, 6, 9} {
		l := house()
		l[i].Kind = api.KdLeaf
		checkFault(t, l, api.ErrArg)
	}
}

// Sh1: just as many states as may be, and one more.
func TestMostStates(t *testing.T) {
	for _, l := range [][]api.State{fan(60), slices.Concat(comb(11), fan(39)[1:])} {
		if e := shape.Check(l); e != api.OK || len(l) != 60 {
			t.Errorf("Check of %d: error %d", len(l), e)
		}
		l = append(l, api.State{Kind: api.KdLeaf})
		checkFault(t, l, api.ErrFull)
	}
	last := fan(60)
	checkPlace(t, last, 59, nil, []int{0}, 2, 60)
	checkMeet(t, last, 58, 59, 0)
	checkMeet(t, last, 59, 59, 59)
	if e := shape.Check(fan(1 << 16)); e != api.ErrFull {
		t.Errorf("Check of very many: error %d", e)
	}
}

// Sh1: just as deep as may be, and one deeper, wherever that stands.
func TestDeepest(t *testing.T) {
	for deep := 1; deep <= 12; deep++ {
		l := chain(deep)
		if e := shape.Check(l); e != api.OK {
			t.Errorf("Check(%v): error %d", l, e)
		}
		var above []int
		for i := deep - 2; i >= 0; i-- {
			above = append(above, i)
		}
		checkPlace(t, l, deep-1, nil, above, deep, deep)
		checkMeet(t, l, 0, deep-1, 0)
		checkMeet(t, l, deep-1, deep-1, deep-1)
	}
	for deep := 13; deep <= 60; deep++ {
		checkFault(t, chain(deep), api.ErrDeep)
	}
	// The deepest one is the first way down, one in between, or the last one.
	for _, kind := range []int{api.KdLeaf, api.KdOr, api.KdAnd} {
		for ahead := range 4 {
			for behind := range 4 {
				for deep := 11; deep <= 14; deep++ {
					l := fan(ahead + 1)
					for i := range deep - 1 {
						parent := len(l) - 1
						if i == 0 {
							parent = 0
						}
						l = append(l, api.State{Kind: api.KdOr, Parent: parent})
					}
					l[len(l)-1].Kind = kind
					l = append(l, fan(behind + 1)[1:]...)
					checkAll(t, l)
				}
			}
		}
	}
}

// Sh1: where several errors apply, too many are told first, then such as may not stand so, then too deep ones.
func TestFirstError(t *testing.T) {
	for _, c := range []struct {
		l    []api.State
		want api.Errno
	}{
		{chain(61), api.ErrFull},
		{make([]api.State, 61), api.ErrFull},
		{append(chain(60), api.State{}), api.ErrFull},
		{append(fan(60), api.State{Kind: 4, Parent: 99}), api.ErrFull},
		{append(chain(13), api.State{Kind: api.KdLeaf, Parent: -1}), api.ErrArg},
		{append(chain(13), api.State{Kind: 0, Parent: 0}), api.ErrArg},
		{append(chain(13), api.State{Kind: api.KdLeaf, Parent: 12}), api.ErrArg},
		{append(chain(59), api.State{Kind: api.KdLeaf, Parent: 59}), api.ErrArg},
		{make([]api.State, 60), api.ErrArg},
		{append(chain(13), api.State{Kind: api.KdLeaf, Parent: 11}), api.ErrDeep},
		{append(chain(59), api.State{Kind: api.KdLeaf, Parent: 0}), api.ErrDeep},
	} {
		checkFault(t, c.l, c.want)
	}
	// The fault stands ahead of what is too deep, and in it.
	for i := range 13 {
		for _, wrong := range []api.State{{Kind: 0, Parent: i - 1}, {Kind: api.KdOr, Parent: i}, {Kind: api.KdOr, Parent: -2}} {
			l := chain(13)
			l[i] = wrong
			checkFault(t, l, api.ErrArg)
		}
	}
}

// Sh1, Sh2: Kind and Parent alone are looked at.
func TestOtherFields(t *testing.T) {
	wrong := api.State{
		Name:  "or",
		Enter: make([]api.Act, 9),
		Exit:  []api.Act{{Name: "$", Any: true, Expr: make([]api.Term, 41)}},
		Trans: make([]api.Trans, 17),
	}
	for _, plain := range [][]api.State{house(), comb(11), fan(60), made("l", -1), made("oll", -1, 0, 1), chain(13), fan(61)} {
		l := slices.Clone(plain)
		for i, s := range l {
			l[i] = wrong
			l[i].Kind, l[i].Parent = s.Kind, s.Parent
		}
		if got, want := shape.Check(l), shape.Check(plain); got != want {
			t.Errorf("Check(%v): error %d, not %d, by other fields", plain, got, want)
		}
		for _, i := range places(l) {
			checkPlace(t, l, i, shape.Kids(plain, i), shape.Above(plain, i), shape.Depth(plain, i), shape.End(plain, i))
			for _, k := range places(l) {
				checkMeet(t, l, i, k, shape.Meet(plain, i, k))
			}
		}
	}
}

// Sh2: what is told at each place of states that are several levels deep.
func TestPlaces(t *testing.T) {
	for i, c := range []struct {
		kids, above []int
		depth, end  int
	}{
		{[]int{1, 2, 9, 11}, nil, 1, 12},
		{nil, []int{0}, 2, 2},
		{[]int{3, 6}, []int{0}, 2, 9},
		{[]int{4, 5}, []int{2, 0}, 3, 6},
		{nil, []int{3, 2, 0}, 4, 5},
		{nil, []int{3, 2, 0}, 4, 6},
		{[]int{7, 8}, []int{2, 0}, 3, 9},
		{nil, []int{6, 2, 0}, 4, 8},
		{nil, []int{6, 2, 0}, 4, 9},
		{[]int{10}, []int{0}, 2, 11},
		{nil, []int{9, 0}, 3, 11},
		{nil, []int{0}, 2, 12},
	} {
		checkPlace(t, house(), i, c.kids, c.above, c.depth, c.end)
	}
	for _, kind := range []int{api.KdLeaf, api.KdOr, api.KdAnd} {
		alone := []api.State{{Kind: kind, Parent: -1}}
		checkPlace(t, alone, 0, nil, nil, 1, 1)
		checkMeet(t, alone, 0, 0, 0)
	}
}

// Sh2: where two states meet.
func TestMeet(t *testing.T) {
	l := house()
	for _, c := range [][3]int{
		// Leaves of one parent, of two that have one parent, and of others.
		{4, 5, 3}, {7, 8, 6}, {4, 7, 2}, {5, 8, 2}, {5, 7, 2}, {1, 11, 0}, {1, 4, 0}, {8, 10, 0}, {10, 11, 0},
		// One that is above the other one: right above, and farther.
		{4, 3, 3}, {4, 2, 2}, {4, 0, 0}, {10, 9, 9}, {10, 0, 0}, {8, 6, 6}, {8, 2, 2}, {6, 2, 2}, {2, 0, 0},
		// Neither above the other one, and not both leaves.
		{3, 6, 2}, {3, 8, 2}, {4, 6, 2}, {6, 9, 0}, {3, 10, 0}, {2, 9, 0}, {2, 11, 0}, {1, 3, 0},
	} {
		checkMeet(t, l, c[0], c[1], c[2])
	}
	for i := range l {
		checkMeet(t, l, i, i, i)
		checkMeet(t, l, i, 0, 0)
	}
}

// Sh2: at places that are none there is nothing, also beside a place.
func TestNoPlace(t *testing.T) {
	for _, l := range [][]api.State{house(), chain(1), chain(12), fan(60), made("o", -1)} {
		checkNothing(t, l, edges(l))
		for _, wrong := range edges(l) {
			for i := range l {
				checkMeet(t, l, i, wrong, -1)
			}
		}
	}
}

// Sh1, Sh2: what stands behind the list's end, in the same memory, is not looked at.
func TestBehindTheEnd(t *testing.T) {
	whole := house()
	for size := range len(whole) + 1 {
		checkAll(t, whole[:size])
	}
	checkPlace(t, whole[:7], 2, []int{3, 6}, []int{0}, 2, 7)
	checkPlace(t, whole[:7], 7, nil, nil, 0, 0)
	checkPlace(t, whole[:1], 0, nil, nil, 1, 1)
}

// everyList hands on all lists of so many states, by these kinds, and Parents from one number to another one.
func everyList(size int, kinds []int, from, to int, do func(l []api.State)) {
	l := make([]api.State, size)
	var set func(i int)
	set = func(i int) {
		if i == size {
			do(l)
			return
		}
		for _, kind := range kinds {
			for p := from; p <= to; p++ {
				l[i] = api.State{Kind: kind, Parent: p}
				set(i + 1)
			}
		}
	}
	set(0)
}

// everyShape hands on all lists of so many states at most that may stand so, by these kinds.
func everyShape(most int, kinds []int, do func(l []api.State)) {
	var more func(l []api.State)
	more = func(l []api.State) {
		if len(l) > 0 {
			do(l)
		}
		if len(l) == most {
			return
		}
		for _, kind := range kinds {
			for p := -1; p < len(l); p++ {
				// The beginning of states that may stand so may stand so, too.
				if next := append(slices.Clone(l), api.State{Kind: kind, Parent: p}); fault(next) == api.OK {
					more(next)
				}
			}
		}
	}
	more(nil)
}

// Sh1, Sh2: all calls, at all small lists, against the other reading of the chapter's words.
func TestAllSmallLists(t *testing.T) {
	check := func(l []api.State) { checkAll(t, l) }
	for size := range 4 {
		everyList(size, []int{0, 1, 2, 3, 4}, -2, size, func(l []api.State) {
			if e := shape.Check(l); e != fault(l) {
				t.Errorf("Check(%v): error %d, not %d", l, e, fault(l))
			}
		})
		everyList(size, []int{1, 3}, -2, size, check)
	}
	everyList(4, []int{1, 2}, -1, 3, check)
}

// Sh1, Sh2: all calls, at all states of a small number that may stand so, against the other reading of the chapter's words.
func TestAllSmallShapes(t *testing.T) {
	count := [9]int{}
	everyShape(5, []int{1, 2, 3}, func(l []api.State) { checkAll(t, l) })
	everyShape(8, []int{2}, func(l []api.State) {
		count[len(l)]++
		checkAll(t, l)
	})
	// As many as there are ordered trees: what is tested is not too little.
	if want := [9]int{0, 1, 1, 2, 5, 14, 42, 132, 429}; count != want {
		t.Errorf("states that may stand so, by their number: %v, not %v", count, want)
	}
}

// Sh1, Sh2: all calls, at states of which one is turned so that they may, or may not, stand so, against the other reading.
func TestOneOff(t *testing.T) {
	check := func(l []api.State, i int, s api.State) {
		turned := slices.Clone(l)
		turned[i] = s
		if got, want := shape.Check(turned), fault(turned); got != want {
			t.Errorf("Check(%v): error %d, not %d", turned, got, want)
		}
	}
	all := many()
	everyShape(5, []int{1, 2}, func(l []api.State) { all = append(all, l) })
	for _, l := range all {
		for i, s := range l {
			for kind := -1; kind < 6; kind++ {
				check(l, i, api.State{Kind: kind, Parent: s.Parent})
			}
			for p := -2; p < len(l)+2; p++ {
				check(l, i, api.State{Kind: s.Kind, Parent: p})
			}
		}
	}
}

// Sh1, Sh2: all calls, at greater states, against the other reading of the chapter's words.
func TestGreaterStates(t *testing.T) {
	for _, l := range many() {
		if e := fault(l); e != api.OK {
			t.Fatalf("the test's own states %v: error %d", l, e)
		}
		checkAll(t, l)
	}
}

// Sh3: all from a state up to its end are just it and those that have it above them, and so those below it by Kids.
func TestWhatFollows(t *testing.T) {
	check := func(l []api.State) {
		for i := range l {
			end := shape.End(l, i)
			var span []int
			for k := range l {
				if in := k == i || slices.Contains(shape.Above(l, k), i); in != (i <= k && k < end) {
					t.Errorf("of %v: %d is below %d, or it: %v, but that one ends at %d", l, k, i, in, end)
				}
				if i <= k && k < end {
					span = append(span, k)
				}
			}
			below := []int{i}
			for n := 0; n < len(below); n++ {
				below = append(below, shape.Kids(l, below[n])...)
			}
			slices.Sort(below)
			if !slices.Equal(below, span) {
				t.Errorf("of %v: %v are below %d, or it, by Kids, not %v", l, below, i, span)
			}
		}
	}
	everyShape(6, []int{1, 3}, check)
	for _, l := range many() {
		check(l)
	}
}

// Sh2, Sh3: the calls go together: those right below have just their own one more above them, and end one where the next one begins.
func TestTogether(t *testing.T) {
	for _, l := range many() {
		for i := range l {
			next := i + 1
			for _, k := range shape.Kids(l, i) {
				want := slices.Concat([]int{i}, shape.Above(l, i))
				if got := shape.Above(l, k); !slices.Equal(got, want) || shape.Depth(l, k) != shape.Depth(l, i)+1 || k != next {
					t.Errorf("of %v: %d, right below %d, has %v above it, and depth %d", l, k, i, got, shape.Depth(l, k))
				}
				next = shape.End(l, k)
			}
			if next != shape.End(l, i) {
				t.Errorf("of %v: the last one below %d ends at %d, not at %d", l, i, next, shape.End(l, i))
			}
		}
	}
}

// same tells whether states are the same in all that these tests set.
func same(a, b api.State) bool {
	return a.Name == b.Name && a.Kind == b.Kind && a.Parent == b.Parent &&
		len(a.Enter) == len(b.Enter) && len(a.Exit) == len(b.Exit) && len(a.Trans) == len(b.Trans)
}

// R3, R4: no call writes to the states that it is handed, nor behind their end; an answer shares no memory with a later one, which is the same.
func TestHandedIn(t *testing.T) {
	spare := api.State{Name: "spare", Kind: api.KdLeaf, Enter: make([]api.Act, 1), Trans: make([]api.Trans, 2)}
	all := append(many(), nil, chain(13), fan(61), made("oll", -1, 0, 1), []api.State{{Kind: 9, Parent: 9}})
	for _, l := range all {
		back := slices.Concat(l, []api.State{spare, spare})
		for i := range l {
			back[i].Name, back[i].Exit = "own", make([]api.Act, 3)
		}
		was := slices.Clone(back)
		handed := back[:len(l)]
		e := shape.Check(handed)
		for _, i := range places(l) {
			kids, above := shape.Kids(handed, i), shape.Above(handed, i)
			depth, end := shape.Depth(handed, i), shape.End(handed, i)
			meet := shape.Meet(handed, i, len(l)/2)
			wasKids, wasAbove := slices.Clone(kids), slices.Clone(above)
			for _, answer := range [][]int{kids, above} {
				answer = append(answer, -7)
				for n := range answer {
					answer[n] = -7
				}
			}
			checkPlace(t, handed, i, wasKids, wasAbove, depth, end)
			if got := shape.Meet(handed, i, len(l)/2); got != meet {
				t.Errorf("Meet(%v, %d, %d), a second time: %d, not %d", l, i, len(l)/2, got, meet)
			}
		}
		if got := shape.Check(handed); got != e {
			t.Errorf("Check(%v), a second time: error %d, not %d", l, got, e)
		}
		if !slices.EqualFunc(back, was, same) {
			t.Errorf("what was handed in is now %v, not %v", back, was)
		}
	}
}
