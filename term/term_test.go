package term_test

import (
	"math"
	"slices"
	"strings"
	"testing"

	"semblance/api"
	"semblance/term"
)

// kind is what the document says of an Op: how many expressions are below it, of which type these must be, and its own type.
type kind struct {
	arity int
	asked int
	own   int
}

// kinds are the document's twenty Ops, by their numbers there.
func kinds() map[int]kind {
	return map[int]kind{
		1: {0, 0, 1}, 2: {0, 0, 1},
		3: {1, 1, 1},
		4: {2, 1, 1}, 5: {2, 1, 1}, 6: {2, 1, 1}, 7: {2, 1, 1}, 8: {2, 1, 1},
		9: {0, 0, 2}, 10: {0, 0, 2}, 11: {0, 0, 2},
		12: {1, 2, 2},
		13: {2, 1, 2}, 14: {2, 1, 2}, 15: {2, 1, 2}, 16: {2, 1, 2}, 17: {2, 1, 2}, 18: {2, 1, 2},
		19: {2, 2, 2}, 20: {2, 2, 2},
	}
}

// others are numbers that are no Op.
func others() []int {
	return []int{math.MinInt, math.MinInt + 1, -1 << 32, -1000, -20, -12, -3, -2, -1, 0, 21, 22, 23, 32, 64, 257, 1000, 1<<32 + 1, math.MaxInt - 1, math.MaxInt}
}

// one is a term that does that, and that may be.
func one(op int) api.Term {
	switch op {
	case api.TmVar:
		return api.Term{Op: op, Name: "x"}
	case api.TmIn:
		return api.Term{Op: op, Name: "open"}
	}
	return api.Term{Op: op}
}

// terms are terms that may be, by what they do.
func terms(ops ...int) []api.Term {
	l := make([]api.Term, 0, len(ops))
	for _, op := range ops {
		l = append(l, one(op))
	}
	return l
}

// negs is an expression of a depth, and of so many terms.
func negs(depth int) []api.Term {
	l := make([]api.Term, depth-1, depth)
	for i := range l {
		l[i].Op = api.TmNeg
	}
	return append(l, api.Term{Op: api.TmNum})
}

// wide is an expression of an odd number of terms, as flat as may be.
func wide(size int) []api.Term {
	if size == 1 {
		return terms(api.TmNum)
	}
	first := (size - 1) / 2
	if first%2 == 0 {
		first--
	}
	return slices.Concat(terms(api.TmAdd), wide(first), wide(size-1-first))
}

// tree is an expression in another form: its first term's Op, where it begins and ends, and those below it.
type tree struct {
	op      int
	at, end int
	below   []*tree
}

// grow is the expression that begins at a place, by the document's words; nil, if there is no whole one.
func grow(l []api.Term, at int) *tree {
	if at < 0 || at >= len(l) {
		return nil
	}
	k, is := kinds()[l[at].Op]
	if !is {
		return nil
	}
	n := &tree{op: l[at].Op, at: at, end: at + 1}
	for range k.arity {
		b := grow(l, n.end)
		if b == nil {
			return nil
		}
		n.below = append(n.below, b)
		n.end = b.end
	}
	return n
}

// depth is how deep it is.
func (n *tree) depth() int {
	most := 0
	for _, b := range n.below {
		most = max(most, b.depth())
	}
	return most + 1
}

// ty is its type.
func (n *tree) ty() int {
	k := kinds()[n.op]
	for _, b := range n.below {
		if b.ty() != k.asked {
			return 0
		}
	}
	return k.own
}

// checkAll holds what all calls but Names tell of terms that may be, but for their Ops, against the document's words.
func checkAll(t *testing.T, l []api.Term) {
	t.Helper()
	for at := -2; at < len(l)+3; at++ {
		end, below := -1, []int(nil)
		if n := grow(l, at); n != nil {
			end = n.end
			for _, b := range n.below {
				below = append(below, b.at)
			}
		}
		if got := term.End(l, at); got != end {
			t.Errorf("End(%v, %d): %d, not %d", l, at, got, end)
		}
		if got := term.Below(l, at); !slices.Equal(got, below) {
			t.Errorf("Below(%v, %d): %v, not %v", l, at, got, below)
		}
	}
	depth, ty, e := 0, 0, api.ErrArg
	if n := grow(l, 0); n != nil && n.end == len(l) && len(l) <= 40 {
		depth, ty, e = n.depth(), n.ty(), api.OK
	}
	if depth > 12 {
		e = api.ErrDeep
	}
	if len(l) > 40 {
		e = api.ErrFull
	}
	if got := term.Depth(l); got != depth {
		t.Errorf("Depth(%v): %d, not %d", l, got, depth)
	}
	if got := term.Type(l); got != ty {
		t.Errorf("Type(%v): %d, not %d", l, got, ty)
	}
	if got := term.Check(l); got != e {
		t.Errorf("Check(%v): error %d, not %d", l, got, e)
	}
}

// Tm1: how many are below each of the twenty Ops, and that there are no others.
func TestArity(t *testing.T) {
	for op, want := range map[int]int{
		api.TmNum: 0, api.TmVar: 0, api.TmTrue: 0, api.TmFalse: 0, api.TmIn: 0,
		api.TmNeg: 1, api.TmNot: 1,
		api.TmAdd: 2, api.TmSub: 2, api.TmMul: 2, api.TmMin: 2, api.TmMax: 2,
		api.TmEq: 2, api.TmNe: 2, api.TmLt: 2, api.TmLe: 2, api.TmGt: 2, api.TmGe: 2,
		api.TmAnd: 2, api.TmOr: 2,
	} {
		if got := term.Arity(op); got != want {
			t.Errorf("Arity(%d): %d, not %d", op, got, want)
		}
		if got := kinds()[op].arity; got != want {
			t.Errorf("the test's own table has %d of %d", got, op)
		}
	}
	for op := -1000; op <= 1000; op++ {
		want := -1
		if k, is := kinds()[op]; is {
			want = k.arity
		}
		if got := term.Arity(op); got != want {
			t.Errorf("Arity(%d): %d, not %d", op, got, want)
		}
	}
	for _, op := range others() {
		if got := term.Arity(op); got != -1 {
			t.Errorf("Arity(%d): %d, not -1", op, got)
		}
	}
}

// Tm1: the ends and what is below, of each place of lists by hand.
func TestEndAndBelow(t *testing.T) {
	for _, c := range []struct {
		l     []api.Term
		ends  []int
		below [][]int
	}{
		{terms(api.TmNum), []int{1}, [][]int{nil}},
		{terms(api.TmLt, api.TmVar, api.TmNum), []int{3, 2, 3}, [][]int{{1, 2}, nil, nil}},
		{terms(api.TmNot, api.TmNot, api.TmIn), []int{3, 3, 3}, [][]int{{1}, {2}, nil}},
		{
			terms(api.TmAnd, api.TmNot, api.TmLt, api.TmVar, api.TmNum, api.TmOr, api.TmTrue, api.TmIn),
			[]int{8, 5, 5, 4, 5, 8, 7, 8},
			[][]int{{1, 5}, {2}, {3, 4}, nil, nil, {6, 7}, nil, nil},
		},
		{
			terms(api.TmSub, api.TmSub, api.TmVar, api.TmVar, api.TmNeg, api.TmVar),
			[]int{6, 4, 3, 4, 6, 6},
			[][]int{{1, 4}, {2, 3}, nil, nil, {5}, nil},
		},
		// Not whole at the end, in the middle, and by an Op that there is not.
		{terms(api.TmNeg), []int{-1}, [][]int{nil}},
		{terms(api.TmAdd, api.TmNum), []int{-1, 2}, [][]int{nil, nil}},
		{terms(api.TmAdd, api.TmNeg, api.TmNum), []int{-1, 3, 3}, [][]int{nil, {2}, nil}},
		{terms(api.TmAdd, api.TmNum, api.TmNeg), []int{-1, 2, -1}, [][]int{nil, nil, nil}},
		{terms(api.TmAdd, api.TmNum, 0, api.TmNum), []int{-1, 2, -1, 4}, [][]int{nil, nil, nil, nil}},
		{terms(api.TmAdd, 21, api.TmNum), []int{-1, -1, 3}, [][]int{nil, nil, nil}},
		{terms(0), []int{-1}, [][]int{nil}},
		{terms(-1), []int{-1}, [][]int{nil}},
		// Several, one behind the other.
		{terms(api.TmNum, api.TmNum), []int{1, 2}, [][]int{nil, nil}},
		{terms(api.TmNeg, api.TmNum, api.TmMax, api.TmNum, api.TmVar, 0), []int{2, 2, 5, 4, 5, -1}, [][]int{{1}, nil, {3, 4}, nil, nil, nil}},
	} {
		for at := range c.l {
			if got := term.End(c.l, at); got != c.ends[at] {
				t.Errorf("End(%v, %d): %d, not %d", c.l, at, got, c.ends[at])
			}
			if got := term.Below(c.l, at); !slices.Equal(got, c.below[at]) {
				t.Errorf("Below(%v, %d): %v, not %v", c.l, at, got, c.below[at])
			}
		}
	}
}

// Tm1: where no term stands, there is no end, and nothing below.
func TestNoTermThere(t *testing.T) {
	for _, l := range [][]api.Term{nil, {}, terms(api.TmNum), terms(api.TmNeg, api.TmNum), terms(api.TmAdd, api.TmNum, api.TmNum), terms(0)} {
		for _, at := range []int{math.MinInt, math.MinInt + 1, -1000, -2, -1, len(l), len(l) + 1, len(l) + 1000, 1 << 32, math.MaxInt - 1, math.MaxInt} {
			if got := term.End(l, at); got != -1 {
				t.Errorf("End(%v, %d): %d, not -1", l, at, got)
			}
			if got := term.Below(l, at); len(got) != 0 {
				t.Errorf("Below(%v, %d): %v", l, at, got)
			}
		}
	}
	// What stands behind a list's end, in the memory that it is a piece of, is none of it.
	back := terms(api.TmAdd, api.TmNum, api.TmNum)
	checkAll(t, back[:2])
	checkAll(t, back[:0])
	checkAll(t, back[:1:3])
}

// Tm1: ends and what is below hang on the Ops alone, of lists of any length.
func TestLongLists(t *testing.T) {
	long := negs(1 << 20)
	if got := term.End(long, 0); got != len(long) {
		t.Errorf("End of %d terms: %d", len(long), got)
	}
	if got := term.End(long[:len(long)-1], 0); got != -1 {
		t.Errorf("End of %d terms that are not whole: %d", len(long)-1, got)
	}
	if got := term.Below(long, 0); !slices.Equal(got, []int{1}) {
		t.Errorf("Below of %d terms: %v", len(long), got)
	}
	flat := wide(1<<16 - 1)
	if got := term.End(flat, 0); got != len(flat) {
		t.Errorf("End of %d terms: %d", len(flat), got)
	}
	if got, want := term.Below(flat, 0), []int{1, term.End(flat, 1)}; !slices.Equal(got, want) || want[1] < 1<<15-3 {
		t.Errorf("Below of %d terms: %v, not %v", len(flat), got, want)
	}
	for _, l := range [][]api.Term{long, flat, long[:len(long)-1]} {
		if term.Depth(l) != 0 || term.Type(l) != 0 || term.Check(l) != api.ErrFull {
			t.Errorf("Depth, Type, Check of %d terms: %d, %d, error %d", len(l), term.Depth(l), term.Type(l), term.Check(l))
		}
	}
}

// Tm2: the depth and the type, by hand; the chapter's example is the first one.
func TestDepthAndType(t *testing.T) {
	for _, c := range []struct {
		l         []api.Term
		depth, ty int
	}{
		{[]api.Term{{Op: api.TmLt}, {Op: api.TmVar, Name: "x"}, {Op: api.TmNum, N: 2}}, 2, api.TyBool},
		{terms(api.TmNum), 1, api.TyInt},
		{terms(api.TmVar), 1, api.TyInt},
		{terms(api.TmTrue), 1, api.TyBool},
		{terms(api.TmFalse), 1, api.TyBool},
		{terms(api.TmIn), 1, api.TyBool},
		{terms(api.TmNeg, api.TmNum), 2, api.TyInt},
		{terms(api.TmNeg, api.TmTrue), 2, api.TyNone},
		{terms(api.TmNot, api.TmIn), 2, api.TyBool},
		{terms(api.TmNot, api.TmVar), 2, api.TyNone},
		{terms(api.TmSub, api.TmSub, api.TmVar, api.TmVar, api.TmNeg, api.TmVar), 3, api.TyInt},
		{terms(api.TmAdd, api.TmNum, api.TmNeg, api.TmNeg, api.TmNum), 4, api.TyInt},
		{terms(api.TmAdd, api.TmNeg, api.TmNeg, api.TmNum, api.TmNum), 4, api.TyInt},
		{terms(api.TmAnd, api.TmNot, api.TmLt, api.TmVar, api.TmNum, api.TmOr, api.TmTrue, api.TmIn), 4, api.TyBool},
		{terms(api.TmEq, api.TmTrue, api.TmTrue), 2, api.TyNone},
		{terms(api.TmNe, api.TmNum, api.TmFalse), 2, api.TyNone},
		{terms(api.TmLt, api.TmLt, api.TmNum, api.TmNum, api.TmNum), 3, api.TyNone},
		{terms(api.TmAnd, api.TmTrue, api.TmNum), 2, api.TyNone},
		{terms(api.TmOr, api.TmNum, api.TmTrue), 2, api.TyNone},
		// A type that one below has not, none above it has.
		{terms(api.TmNot, api.TmNot, api.TmNum), 3, api.TyNone},
		{terms(api.TmNot, api.TmNeg, api.TmTrue), 3, api.TyNone},
		{terms(api.TmMin, api.TmNum, api.TmNeg, api.TmTrue), 3, api.TyNone},
		{terms(api.TmOr, api.TmGe, api.TmNum, api.TmIn, api.TmTrue), 3, api.TyNone},
	} {
		if got := term.Depth(c.l); got != c.depth {
			t.Errorf("Depth(%v): %d, not %d", c.l, got, c.depth)
		}
		if got := term.Type(c.l); got != c.ty {
			t.Errorf("Type(%v): %d, not %d", c.l, got, c.ty)
		}
		if got := term.Check(c.l); got != api.OK {
			t.Errorf("Check(%v): error %d", c.l, got)
		}
	}
}

// Tm2: of what is not just one expression there is no depth and no type, and it is ErrArg.
func TestNoExpression(t *testing.T) {
	for _, l := range [][]api.Term{
		nil, {},
		terms(api.TmNeg), terms(api.TmNot), terms(api.TmAdd), terms(api.TmOr),
		terms(api.TmAdd, api.TmNum), terms(api.TmLt, api.TmNum), terms(api.TmAdd, api.TmNeg, api.TmNum), terms(api.TmAdd, api.TmNum, api.TmNeg),
		terms(api.TmNum, api.TmNum), terms(api.TmTrue, api.TmNum), terms(api.TmNum, api.TmNeg), terms(api.TmNum, api.TmNeg, api.TmNum),
		terms(api.TmNum, api.TmNum, api.TmAdd), terms(api.TmNum, api.TmAdd, api.TmNum), terms(api.TmNeg, api.TmNum, api.TmNum), terms(api.TmAdd, api.TmNum, api.TmNum, api.TmNum),
		terms(api.TmNum, 0), terms(0, api.TmNum), terms(api.TmNeg, 0), terms(api.TmAdd, api.TmNum, 21), terms(api.TmAdd, 21, api.TmNum),
		slices.Concat(negs(13), terms(api.TmNum)), negs(13)[:12], slices.Concat(wide(39), terms(api.TmNum)), wide(39)[:38],
	} {
		if term.Depth(l) != 0 || term.Type(l) != 0 || term.Check(l) != api.ErrArg {
			t.Errorf("%v: depth %d, type %d, error %d, not 0, 0, 1", l, term.Depth(l), term.Type(l), term.Check(l))
		}
	}
	for _, op := range others() {
		for _, l := range [][]api.Term{terms(op), terms(api.TmNot, op), terms(op, api.TmTrue), terms(op, api.TmNum, api.TmNum), terms(api.TmAdd, op, api.TmNum), terms(api.TmAdd, api.TmNum, op)} {
			if term.Depth(l) != 0 || term.Type(l) != 0 || term.Check(l) != api.ErrArg {
				t.Errorf("%v: depth %d, type %d, error %d, not 0, 0, 1", l, term.Depth(l), term.Type(l), term.Check(l))
			}
		}
	}
}

// Tm2: just so many terms, and one more; just so deep, and one deeper.
func TestLimits(t *testing.T) {
	for _, c := range []struct {
		l         []api.Term
		size      int
		depth, ty int
		e         api.Errno
	}{
		{wide(39), 39, 6, api.TyInt, api.OK},
		{slices.Concat(terms(api.TmNeg), wide(39)), 40, 7, api.TyInt, api.OK},
		{slices.Concat(terms(api.TmLt, api.TmNeg, api.TmVar), wide(37)), 40, 7, api.TyBool, api.OK},
		{wide(41), 41, 0, 0, api.ErrFull},
		{slices.Concat(terms(api.TmNeg), wide(41)), 42, 0, 0, api.ErrFull},
		{negs(11), 11, 11, api.TyInt, api.OK},
		{negs(12), 12, 12, api.TyInt, api.OK},
		{negs(13), 13, 13, api.TyInt, api.ErrDeep},
		{slices.Concat(terms(api.TmAdd), wide(27), negs(11)), 39, 12, api.TyInt, api.OK},
		{slices.Concat(terms(api.TmEq), negs(11), wide(27)), 39, 12, api.TyBool, api.OK},
		{slices.Concat(terms(api.TmNeg, api.TmAdd), wide(27), negs(10)), 39, 12, api.TyInt, api.OK},
		{slices.Concat(terms(api.TmAdd), wide(27), negs(12)), 40, 13, api.TyInt, api.ErrDeep},
		{slices.Concat(terms(api.TmEq), negs(12), wide(27)), 40, 13, api.TyBool, api.ErrDeep},
		{slices.Concat(terms(api.TmNot), negs(12)), 13, 13, api.TyNone, api.ErrDeep},
		{negs(39), 39, 39, api.TyInt, api.ErrDeep},
		{negs(40), 40, 40, api.TyInt, api.ErrDeep},
		{negs(41), 41, 0, 0, api.ErrFull},
	} {
		if len(c.l) != c.size {
			t.Errorf("the test's own list has %d terms, not %d", len(c.l), c.size)
		}
		if got := term.Depth(c.l); got != c.depth {
			t.Errorf("Depth of %d terms: %d, not %d", c.size, got, c.depth)
		}
		if got := term.Type(c.l); got != c.ty {
			t.Errorf("Type of %d terms: %d, not %d", c.size, got, c.ty)
		}
		if got := term.Check(c.l); got != c.e {
			t.Errorf("Check of %d terms: error %d, not %d", c.size, got, c.e)
		}
		checkAll(t, c.l)
	}
}

// Tm2: of several errors, too many terms come first, then what is none or may not be, then the depth.
func TestFirstError(t *testing.T) {
	bad := api.Term{Op: api.TmNum, N: -1}
	deep := negs(13)
	deep[12] = bad
	named := negs(13)
	named[0].Name = "a"
	for _, c := range []struct {
		l []api.Term
		e api.Errno
	}{
		{make([]api.Term, 41), api.ErrFull},
		{make([]api.Term, 40), api.ErrArg},
		{slices.Repeat([]api.Term{bad}, 41), api.ErrFull},
		{slices.Concat(negs(40), terms(api.TmNum)), api.ErrFull},
		{negs(42)[:41], api.ErrFull},
		{negs(41)[:40], api.ErrArg},
		{slices.Concat(negs(39), terms(api.TmNum)), api.ErrArg},
		{slices.Concat(terms(api.TmNum), negs(39)), api.ErrArg},
		{slices.Concat(negs(40)[:39], []api.Term{bad}), api.ErrArg},
		{slices.Concat(negs(41)[:40], []api.Term{bad}), api.ErrFull},
		{deep, api.ErrArg},
		{named, api.ErrArg},
		{negs(13), api.ErrDeep},
	} {
		if got := term.Check(c.l); got != c.e {
			t.Errorf("Check(%v): error %d, not %d", c.l, got, c.e)
		}
	}
}

// may tells by the document's words whether a term of an Op that there is may be, all names of the tests being told by hand.
func may(one api.Term, name bool) bool {
	switch one.Op {
	case 1:
		return one.N >= 0 && one.N <= 1000000 && one.Name == ""
	case 2, 11:
		return one.N == 0 && name
	}
	return one.N == 0 && one.Name == ""
}

// Tm2: each Op with each N and Name; what may not be is ErrArg wherever it stands, and changes nothing else.
func TestTermMayBe(t *testing.T) {
	words := map[string]bool{
		"": false, "a": true, "x": true, "open": true, "a_1": true, "abcdefghijkl": true, "ors": true,
		"abcdefghijklm": false, "or": false, "in": false, "true": false, "min": false, "chart": false,
		"A": false, "1": false, "_a": false, "a b": false, "a-b": false, " ": false, "\xff": false, "a\xff": false, "\u00e9": false, strings.Repeat("a", 1000): false,
	}
	for op, k := range kinds() {
		for _, n := range []int{math.MinInt, -1000001, -1000000, -2, -1, 0, 1, 2, 999999, 1000000, 1000001, 1 << 32, math.MaxInt} {
			for name, is := range words {
				odd := api.Term{Op: op, N: n, Name: name}
				want := api.ErrArg
				if may(odd, is) {
					want = api.OK
				}
				alone := append([]api.Term{odd}, slices.Repeat(terms(api.TmNum), k.arity)...)
				for _, l := range [][]api.Term{
					alone,
					slices.Concat(terms(api.TmNeg), alone),
					slices.Concat(terms(api.TmAdd), alone, terms(api.TmVar)),
					slices.Concat(terms(api.TmAdd, api.TmVar), alone),
				} {
					if got := term.Check(l); got != want {
						t.Errorf("Check(%v): error %d, not %d", l, got, want)
					}
				}
				bare := slices.Concat(terms(api.TmNeg, op), alone[1:])
				l := slices.Concat(terms(api.TmNeg), alone)
				if term.Depth(l) != term.Depth(bare) || term.Type(l) != term.Type(bare) || term.End(l, 1) != len(l) || len(term.Below(l, 1)) != k.arity {
					t.Errorf("%v: depth %d, type %d, end %d, below %v", l, term.Depth(l), term.Type(l), term.End(l, 1), term.Below(l, 1))
				}
			}
		}
	}
}

// Tm2: the names as they stand, each as often as it stands.
func TestNames(t *testing.T) {
	mixed := []api.Term{
		{Op: api.TmAnd}, {Op: api.TmLt}, {Op: api.TmVar, Name: "y"}, {Op: api.TmVar, Name: "x"},
		{Op: api.TmOr}, {Op: api.TmIn, Name: "open"}, {Op: api.TmEq}, {Op: api.TmVar, Name: "y"}, {Op: api.TmNum, N: 7},
	}
	odd := []api.Term{
		{Op: api.TmVar, Name: "b"}, {Op: 0, Name: "none"}, {Op: 99, Name: "or"}, {Op: api.TmNum, N: 3, Name: "n"},
		{Op: api.TmVar}, {Op: -1, Name: "\xff"}, {Op: api.TmVar, Name: "NO NAME"}, {Op: api.TmVar, Name: "b"}, {Op: api.TmNum},
	}
	for _, c := range []struct {
		l    []api.Term
		op   int
		want []string
	}{
		{mixed, api.TmVar, []string{"y", "x", "y"}},
		{mixed, api.TmIn, []string{"open"}},
		{mixed, api.TmNum, []string{""}},
		{mixed, api.TmAnd, []string{""}},
		{mixed, api.TmNot, nil}, {mixed, api.TmAdd, nil}, {mixed, 0, nil}, {mixed, -1, nil}, {mixed, 21, nil}, {mixed, math.MaxInt, nil}, {mixed, math.MinInt, nil},
		{mixed[2:4], api.TmVar, []string{"y", "x"}},
		{mixed[:3], api.TmVar, []string{"y"}},
		{nil, api.TmVar, nil}, {[]api.Term{}, api.TmVar, nil}, {nil, 0, nil},
		{terms(api.TmAdd, api.TmAdd, api.TmAdd), api.TmAdd, []string{"", "", ""}},
		// Also of what is no expression, of terms that may not be, and of Ops that there are not.
		{odd, api.TmVar, []string{"b", "", "NO NAME", "b"}},
		{odd, api.TmNum, []string{"n", ""}},
		{odd, 0, []string{"none"}}, {odd, 99, []string{"or"}}, {odd, -1, []string{"\xff"}}, {odd, api.TmIn, nil},
		{slices.Repeat(terms(api.TmVar), 1000), api.TmVar, slices.Repeat([]string{"x"}, 1000)},
	} {
		if got := term.Names(c.l, c.op); !slices.Equal(got, c.want) {
			t.Errorf("Names(%v, %d): %q, not %q", c.l, c.op, got, c.want)
		}
	}
}

// Tm1, Tm2: each Op, and each two of all of them below it, with an expression of each type below these.
func TestBelowOneAnother(t *testing.T) {
	// expression is one whose first term does that; those below it are of the type that it asks for, or just not.
	expression := func(op int, fit bool) []api.Term {
		below := api.TmNum
		if (kinds()[op].asked == 2) == fit {
			below = api.TmTrue
		}
		return slices.Concat(terms(op), slices.Repeat(terms(below), kinds()[op].arity))
	}
	for op, k := range kinds() {
		for a := range kinds() {
			for _, fit := range []bool{true, false} {
				switch k.arity {
				case 0:
					checkAll(t, terms(op))
				case 1:
					checkAll(t, slices.Concat(terms(op), expression(a, fit)))
				case 2:
					for b := range kinds() {
						checkAll(t, slices.Concat(terms(op), expression(a, true), expression(b, fit)))
						checkAll(t, slices.Concat(terms(op), expression(a, fit), expression(b, true)))
					}
				}
			}
		}
	}
}

// everyList calls with each list of at most so many terms out of some Ops.
func everyList(most int, ops []int, do func(l []api.Term)) {
	var l []api.Term
	var more func()
	more = func() {
		do(l)
		if len(l) == most {
			return
		}
		for _, op := range ops {
			l = append(l, one(op))
			more()
			l = l[:len(l)-1]
		}
	}
	more()
}

// Tm1, Tm2: all calls, at all small lists, against the other reading of the document's words.
func TestAllSmallLists(t *testing.T) {
	everyList(5, []int{api.TmNum, api.TmNeg, api.TmAdd, api.TmTrue, api.TmNot, api.TmLt, api.TmAnd, 0, 21}, func(l []api.Term) { checkAll(t, l) })
	everyList(9, []int{api.TmVar, api.TmNot, api.TmGe}, func(l []api.Term) { checkAll(t, l) })
}

// Tm3: those below a term stand one behind the other, from behind it to where it ends; each is an expression by itself, less deep.
func TestWhatFollows(t *testing.T) {
	check := func(l []api.Term) {
		for at := range l {
			end, below := term.End(l, at), term.Below(l, at)
			if end < 0 {
				if len(below) != 0 {
					t.Errorf("Below(%v, %d): %v, but there is no end", l, at, below)
				}
				continue
			}
			if len(below) != term.Arity(l[at].Op) {
				t.Errorf("Below(%v, %d): %v", l, at, below)
			}
			next, depth := at+1, term.Depth(l[at:end])
			for _, b := range below {
				if b != next {
					t.Errorf("Below(%v, %d): %v, not one behind the other", l, at, below)
					return
				}
				next = term.End(l, b)
				if next < 0 {
					t.Errorf("End(%v, %d): %d, but it is below %d", l, b, next, at)
					return
				}
				part := l[b:next]
				if end-at <= api.MaxTerms && (term.Depth(part) < 1 || term.Depth(part) >= depth) {
					t.Errorf("Depth(%v): %d, below one of %d", part, term.Depth(part), depth)
				}
				if e := term.Check(part); e != api.OK && term.Check(l[at:end]) == api.OK {
					t.Errorf("Check(%v): error %d, below an expression that may be", part, e)
				}
			}
			if next != end {
				t.Errorf("Below(%v, %d): %v, but the last one ends at %d, not at %d", l, at, below, next, end)
			}
		}
	}
	everyList(8, []int{api.TmIn, api.TmNot, api.TmOr}, check)
	for size := 1; size < 45; size++ {
		check(negs(size))
		check(negs(size + 1)[:size])
		check(wide(2*size - 1))
		check(slices.Concat(terms(api.TmMax), negs(size), wide(2*size-1)))
	}
}

// R3: no call writes to the list that it is handed, nor behind its end; an answer shares no memory with it, nor with a later answer.
func TestHandedIn(t *testing.T) {
	spare := api.Term{Op: api.TmIn, N: 9, Name: "spare"}
	whole := []api.Term{{Op: api.TmLt}, {Op: api.TmVar, Name: "x"}, {Op: api.TmNum, N: 2}}
	for _, l := range [][]api.Term{
		whole, whole[:2], {}, terms(api.TmNum, api.TmNum), {{Op: 99, N: -1, Name: "or"}}, {{Op: api.TmVar, N: 5, Name: "x"}}, {{Op: api.TmNum, N: 5, Name: "x"}},
		negs(13), negs(41), wide(39), slices.Concat(terms(api.TmNot), whole),
	} {
		back := slices.Concat(l, []api.Term{spare, spare})
		was := slices.Clone(back)
		handed := back[:len(l)]
		for at := -1; at <= len(l); at++ {
			term.End(handed, at)
			below := term.Below(handed, at)
			again := slices.Clone(below)
			for i := range below {
				below[i] = -7
			}
			if got := term.Below(handed, at); !slices.Equal(got, again) {
				t.Errorf("Below(%v, %d), a second time: %v, not %v", l, at, got, again)
			}
		}
		term.Depth(handed)
		term.Type(handed)
		term.Check(handed)
		for op := range 25 {
			said := term.Names(handed, op)
			again := slices.Clone(said)
			for i := range said {
				said[i] = "other"
			}
			if got := term.Names(handed, op); !slices.Equal(got, again) {
				t.Errorf("Names(%v, %d), a second time: %q, not %q", l, op, got, again)
			}
		}
		if !slices.Equal(back, was) {
			t.Errorf("what was handed in is now %v, not %v", back, was)
		}
	}
}
