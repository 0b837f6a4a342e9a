package eval_test

import (
	"math"
	"slices"
	"strconv"
	"strings"
	"testing"

	"semblance/api"
	"semblance/eval"
	"semblance/expr"
	"semblance/names"
	"semblance/term"
)

// parsed is the terms of a text.
func parsed(t *testing.T, s string) []api.Term {
	t.Helper()
	l, e := expr.Parse(s)
	if e != api.OK {
		t.Fatalf("Parse(%q): error %d", s, e)
	}
	return l
}

// given is an Env with variables of these names, a name a word, of these values.
func given(words string, vals ...int) api.Env {
	var env api.Env
	for _, name := range strings.Fields(words) {
		env.Vars = append(env.Vars, api.Var{Name: name})
	}
	copy(env.Vals[:], vals)
	return env
}

// within is an Env in which states of these names are active.
func within(words string) api.Env { return api.Env{In: strings.Fields(words)} }

// check holds all three calls at terms and an Env against what they must tell.
func check(t *testing.T, l []api.Term, env api.Env, want int, fault api.Errno) {
	t.Helper()
	if got, e := eval.At(l, env); got != want || e != fault {
		t.Errorf("At(%v, %v): %d, error %d, not %d, error %d", l, env, got, e, want, fault)
	}
	if e := eval.Check(l, env); e != fault {
		t.Errorf("Check(%v, %v): error %d, not %d", l, env, e, fault)
	}
	holds := len(l) == 0 || fault == api.OK && want == 1 && term.Type(l) == api.TyBool
	if got := eval.Holds(l, env); got != holds {
		t.Errorf("Holds(%v, %v): %t, not %t", l, env, got, holds)
	}
}

// El1: the chapter's example, and the variable beside the number.
func TestExample(t *testing.T) {
	l := parsed(t, "x + 1 < 3")
	check(t, l, given("x", 1), 1, api.OK)
	check(t, l, given("x", 2), 0, api.OK)
	check(t, l, given("x", -5), 1, api.OK)
}

// El1: each Op, by operands that no other Op makes the same of.
func TestEachOp(t *testing.T) {
	env := given("x y z", 7, 3, -7)
	env.In = []string{"open"}
	for s, want := range map[string]int{
		"0": 0, "1": 1, "2": 2, "42": 42, "999999": 999999, "1000000": 1000000,
		"x": 7, "y": 3, "z": -7,
		"true": 1, "false": 0, "in(open)": 1, "in(shut)": 0,
		"-x": -7, "-z": 7, "--x": 7, "-1": -1, "-0": 0,
		"x + y": 10, "y + x": 10, "x + z": 0, "z + y": -4, "z + z": -14,
		"x - y": 4, "y - x": -4, "x - z": 14, "z - x": -14, "z - y": -10, "x - x": 0, "0 - y": -3, "y - 0": 3,
		"x * y": 21, "y * x": 21, "z * y": -21, "z * z": 49, "z * 0": 0, "1 * x": 7,
		"min(x, y)": 3, "min(y, x)": 3, "min(z, y)": -7, "min(y, z)": -7, "min(x, x)": 7, "min(z, x)": -7,
		"max(x, y)": 7, "max(y, x)": 7, "max(z, y)": 3, "max(y, z)": 3, "max(z, z)": -7, "max(z, x)": 7,
		"not true": 0, "not false": 1, "not in(open)": 0, "not in(shut)": 1, "not not true": 1, "not not false": 0,
		"x == y": 0, "y == x": 0, "x == x": 1, "z == z": 1, "x == z": 0,
		"x != y": 1, "y != x": 1, "x != x": 0, "z != z": 0, "x != z": 1,
		"x < y": 0, "y < x": 1, "x < x": 0, "z < x": 1, "x < z": 0, "0 < 0": 0,
		"x <= y": 0, "y <= x": 1, "x <= x": 1, "z <= x": 1, "x <= z": 0, "0 <= 0": 1,
		"x > y": 1, "y > x": 0, "x > x": 0, "z > x": 0, "x > z": 1, "0 > 0": 0,
		"x >= y": 1, "y >= x": 0, "x >= x": 1, "z >= x": 0, "x >= z": 1, "0 >= 0": 1,
		"false and false": 0, "false and true": 0, "true and false": 0, "true and true": 1,
		"false or false": 0, "false or true": 1, "true or false": 1, "true or true": 1,
	} {
		check(t, parsed(t, s), env, want, api.OK)
	}
}

// El1: expressions below one another, several deep, where the order of the sides tells.
func TestDeeper(t *testing.T) {
	env := given("a b c d", 10, 4, 3, -2)
	env.In = []string{"open", "lit"}
	for s, want := range map[string]int{
		"a - b - c": 3, "a - (b - c)": 9, "a - b - c - d": 5, "a - (b - (c - d))": 11, "a - b - (c - d)": 1,
		"a - b * c": -2, "(a - b) * c": 18, "a * b - c * d": 46, "a - -b": 14, "-(a - b)": -6, "-a - b": -14,
		"min(a - b, c) - max(d - a, b * d)": 11, "max(min(a, b), min(c, d)) - min(max(a, b), max(c, d))": 1,
		"min(min(a, b), min(c, d)) * max(max(d, c), max(b, a))": -20,
		"a - b < c - d": 0, "c - d < a - b": 1, "a - b == c * -d": 1, "min(a, b) > max(c, d)": 1, "max(c, d) > min(a, b)": 0,
		"a < b or b < a": 1, "a < b and b < a": 0, "not a < b and b < a": 1, "not (a < b or b < a)": 0,
		"not (a < b and b < a) and (c < d or in(open))": 1, "in(shut) or in(open) and in(lit)": 1, "(in(shut) or in(open)) and not in(lit)": 0,
		"true and (false or (true and (false or (true and not (false or true)))))":  0,
		"false or (true and (false or (true and (false or not (true and false)))))": 1,
		"---(a - (b - (c - (d - (1 - (2 - 3))))))":                                  -13,
	} {
		check(t, parsed(t, s), env, want, api.OK)
	}
}

// El1: a variable's value counts as the nearest value, not as its range or its first value say.
func TestVariables(t *testing.T) {
	for v, want := range map[int]int{
		0: 0, 1: 1, -1: -1, 1001: 1001,
		999999: 999999, 1000000: 1000000, 1000001: 1000000, 2000000: 1000000, 1 << 32: 1000000, math.MaxInt - 1: 1000000, math.MaxInt: 1000000,
		-999999: -999999, -1000000: -1000000, -1000001: -1000000, -2000000: -1000000, -1 << 32: -1000000, math.MinInt + 1: -1000000, math.MinInt: -1000000,
	} {
		for at, name := range []string{"a", "b", "c", "d"} {
			env := given("a b c d", 5, 6, 7, 8)
			env.Vals[at] = v
			for i := range env.Vars {
				env.Vars[i].Lo, env.Vars[i].Hi, env.Vars[i].Init = 0, 3, 2
			}
			check(t, parsed(t, name), env, want, api.OK)
			check(t, parsed(t, "-"+name), env, -want, api.OK)
		}
	}
	// Beyond a bound, it is at it.
	check(t, parsed(t, "x == y"), given("x y", 1000001, math.MaxInt), 1, api.OK)
	check(t, parsed(t, "x < y"), given("x y", 1000001, math.MaxInt), 0, api.OK)
	check(t, parsed(t, "x == -1000000"), given("x", math.MinInt), 1, api.OK)
	check(t, parsed(t, "x + -1"), given("x", math.MaxInt), 999999, api.OK)
	check(t, parsed(t, "min(x, y)"), given("x y", 1000001, 2000000), 1000000, api.OK)
}

// El1: sums, differences and products at the bounds and beyond; each step of several comes to the nearest value.
func TestBounds(t *testing.T) {
	env := given("x y z", 1000000, -1000000, 1000)
	for s, want := range map[string]int{
		"1000000": 1000000, "-1000000": -1000000, "--1000000": 1000000, "-x": -1000000, "-y": 1000000, "-0": 0, "--0": 0,
		"x + 0": 1000000, "x + 1": 1000000, "999999 + 1": 1000000, "999999 + 2": 1000000, "x + x": 1000000, "x + y": 0, "y + y": -1000000, "y + -1": -1000000, "y + 1": -999999,
		"x - 0": 1000000, "x - -1": 1000000, "x - y": 1000000, "y - x": -1000000, "y - 1": -1000000, "x - x": 0, "y - y": 0, "x - 1": 999999, "-999999 - 1": -1000000, "-999999 - 2": -1000000,
		"z * z": 1000000, "z * -z": -1000000, "z * 1001": 1000000, "z * -1001": -1000000, "z * 999": 999000, "x * x": 1000000, "x * y": -1000000, "y * y": 1000000, "x * 0": 0, "x * 1": 1000000, "y * 1": -1000000, "y * -1": 1000000,
		"x + x - x": 0, "x + (x - x)": 1000000, "x - x + x": 1000000, "y - x + x": 0, "z * z * z - x": 0, "x + 1 == x": 1, "y - 1 < y": 0,
		"min(x + 1, x)": 1000000, "max(y - 1, y)": -1000000,
	} {
		check(t, parsed(t, s), env, want, api.OK)
	}
	// A number's N may be Big, and no more; one below 0 is none.
	check(t, []api.Term{{Op: api.TmNum, N: api.Big}}, api.Env{}, 1000000, api.OK)
	check(t, []api.Term{{Op: api.TmNum, N: api.Big + 1}}, api.Env{}, 0, api.ErrArg)
	check(t, []api.Term{{Op: api.TmNum, N: -1}}, api.Env{}, 0, api.ErrArg)
}

// El1: of several variables of one Name the first one counts; a Name of a state is no variable, nor the other way round.
func TestWhoseNames(t *testing.T) {
	check(t, parsed(t, "x"), given("x x", 1, 2), 1, api.OK)
	check(t, parsed(t, "x"), given("y x x x", 9, 3, 4, 5), 3, api.OK)
	check(t, parsed(t, "x - y"), given("x y y x", 1, 2, 3, 4), -1, api.OK)
	check(t, parsed(t, "x - y"), given("y x x y", 1, 2, 3, 4), 1, api.OK)
	check(t, parsed(t, "x"), given("xx xy x", 1, 2, 3), 3, api.OK)
	// Names of variables that no term has do not matter.
	odd := api.Env{Vars: []api.Var{{}, {Name: "or"}, {Name: "NO NAME"}, {Name: "x"}}, Vals: [4]int{1, 2, 3, 4}}
	check(t, parsed(t, "x"), odd, 4, api.OK)
	check(t, []api.Term{{Op: api.TmVar}}, odd, 0, api.ErrArg)
	check(t, []api.Term{{Op: api.TmVar, Name: "or"}}, odd, 0, api.ErrArg)

	open := parsed(t, "in(open)")
	for words, want := range map[string]int{
		"": 0, "open": 1, "shut": 0, "shut open": 1, "open shut": 1, "open open": 1, "shut shut": 0, "opens": 0, "ope": 0, "a b c d e open": 1,
	} {
		check(t, open, within(words), want, api.OK)
	}
	check(t, open, api.Env{In: []string{"", "open ", " open", "Open"}}, 0, api.OK)
	check(t, open, api.Env{In: append(slices.Repeat([]string{"shut"}, 1000), "open")}, 1, api.OK)
	both := given("x", 1)
	both.In = []string{"open"}
	check(t, parsed(t, "in(x)"), both, 0, api.OK)
	check(t, parsed(t, "open"), both, 0, api.ErrNone)
}

// El1: a variable that is not there is an error, wherever it stands, also where its value would not count.
func TestNoVariable(t *testing.T) {
	env := given("x y", 1, 2)
	for _, s := range []string{
		"z", "-z", "z + x", "x + z", "x < z", "z < x", "0 * z", "z * 0", "min(x, z)", "max(z, x)", "z == z", "z - z", "(x + y) * (x - z)",
		"true or z < 1", "z < 1 or true", "false and z < 1", "z < 1 and false", "not (true or not (false and z == x))", "z + unknown",
	} {
		check(t, parsed(t, s), env, 0, api.ErrNone)
		check(t, parsed(t, s), api.Env{}, 0, api.ErrNone)
	}
	// A value beyond the variables belongs to none.
	check(t, parsed(t, "z"), api.Env{Vals: [4]int{5, 5, 5, 5}}, 0, api.ErrNone)
}

// El1: with nothing in the Env, all that asks for nothing of it comes to something.
func TestEmptyEnv(t *testing.T) {
	for _, env := range []api.Env{{}, {Vars: []api.Var{}, In: []string{}}} {
		check(t, parsed(t, "1 - 3"), env, -2, api.OK)
		check(t, parsed(t, "not in(open) and 1 < 2"), env, 1, api.OK)
		check(t, parsed(t, "x"), env, 0, api.ErrNone)
		check(t, nil, env, 0, api.ErrArg)
	}
}

// untyped are expressions of no type, as texts.
func untyped() []string {
	return []string{
		"not 0", "not 1", "not 2", "not x", "not -1", "not not 1", "-true", "-in(open)", "-(1 < 2)",
		"1 and 1", "0 and 1", "2 and 2", "x and true", "true and 1", "0 or 0", "1 or 1", "2 or 0", "true or 2", "x or true", "false or 1",
		"true + 1", "1 - true", "in(open) * 1", "min(1, true)", "max(false, 1)",
		"true == true", "1 == true", "false != 0", "(1 < 2) < 3", "1 <= in(open)", "true > 0", "true >= true",
		"true and (1 and true)", "true or -true < 1", "-(1 + -(2 - true))", "false and not (1 + 1)",
	}
}

// El1: of no type there is just an error; of TyInt and TyBool there is something.
func TestTypes(t *testing.T) {
	env := given("x", 1)
	env.In = []string{"open"}
	for _, s := range untyped() {
		check(t, parsed(t, s), env, 0, api.ErrType)
	}
	check(t, parsed(t, "x"), env, 1, api.OK)
	check(t, parsed(t, "x == 1"), env, 1, api.OK)
}

// negs is so many - ahead of an expression.
func negs(many int, l []api.Term) []api.Term {
	return slices.Concat(slices.Repeat([]api.Term{{Op: api.TmNeg}}, many), l)
}

// sum is so many times 1, put together from both sides, so that it is as flat as may be.
func sum(many int) []api.Term {
	if many == 1 {
		return []api.Term{{Op: api.TmNum, N: 1}}
	}
	return slices.Concat([]api.Term{{Op: api.TmAdd}}, sum(many/2), sum(many-many/2))
}

// El1: just as many variables, as many terms, as great a depth as may be, and one more.
func TestLimits(t *testing.T) {
	x, four, five := parsed(t, "x"), given("a b c x", 1, 2, 3, 4), given("a b c x y", 1, 2, 3, 4)
	check(t, x, four, 4, api.OK)
	check(t, x, five, 0, api.ErrArg)
	check(t, parsed(t, "y"), five, 0, api.ErrArg)
	check(t, parsed(t, "1 < 2"), five, 0, api.ErrArg)
	check(t, parsed(t, "y"), four, 0, api.ErrNone)
	check(t, x, api.Env{Vars: slices.Repeat([]api.Var{{Name: "x"}}, 100000)}, 0, api.ErrArg)

	most := negs(1, sum(20))
	check(t, most, api.Env{}, -20, api.OK)
	check(t, sum(20), api.Env{}, 20, api.OK)
	check(t, negs(1, most), api.Env{}, 0, api.ErrFull)
	check(t, sum(21), api.Env{}, 0, api.ErrFull)
	check(t, slices.Concat(most, x), four, 0, api.ErrFull)
	check(t, sum(100000), api.Env{}, 0, api.ErrFull)
	check(t, negs(100000, x), four, 0, api.ErrFull)

	check(t, negs(10, x), four, 4, api.OK)
	check(t, negs(11, x), four, -4, api.OK)
	check(t, negs(12, x), four, 0, api.ErrDeep)
	check(t, negs(39, x), four, 0, api.ErrDeep)
	check(t, slices.Concat([]api.Term{{Op: api.TmSub}}, negs(10, x), sum(14)), four, -10, api.OK)
	check(t, slices.Concat([]api.Term{{Op: api.TmSub}}, sum(14), negs(10, x)), four, 10, api.OK)
	check(t, slices.Concat([]api.Term{{Op: api.TmSub}}, sum(14), negs(11, x)), four, 0, api.ErrDeep)
}

// El1: what is no whole expression, or more than one, or has a term that may not be, is ErrArg.
func TestNoExpression(t *testing.T) {
	env := given("x", 1)
	num, x, add, neg := api.Term{Op: api.TmNum, N: 1}, api.Term{Op: api.TmVar, Name: "x"}, api.Term{Op: api.TmAdd}, api.Term{Op: api.TmNeg}
	for _, l := range [][]api.Term{
		{add}, {neg}, {add, num}, {add, neg, num}, {add, num, neg}, {num, x}, {num, num, add}, {num, add, num}, {x, neg}, {neg, num, x}, {add, num, x, num},
		{{}}, {num, {}}, {neg, {}}, {add, num, {Op: 21}}, {add, {Op: -1}, num}, {{Op: math.MaxInt}}, {{Op: math.MinInt}, num},
		{{Op: api.TmVar}}, {{Op: api.TmVar, Name: "or"}}, {{Op: api.TmVar, Name: "x", N: 1}}, {{Op: api.TmIn}}, {{Op: api.TmIn, Name: "abcdefghijklm"}}, {{Op: api.TmNum, Name: "x"}},
		{{Op: api.TmTrue, N: 1}}, {{Op: api.TmNeg, Name: "x"}, num}, {add, num, {Op: api.TmNum, N: 1000001}}, {add, num, {Op: api.TmNum, N: math.MinInt}},
	} {
		check(t, l, env, 0, api.ErrArg)
	}
	check(t, nil, env, 0, api.ErrArg)
	check(t, []api.Term{}, env, 0, api.ErrArg)
}

// El1: of several errors that of too many variables comes first, then those of layer 5, then that of the type, then that of the variable.
func TestFirstError(t *testing.T) {
	not, none := api.Term{Op: api.TmNot}, api.Term{Op: api.TmVar, Name: "none"}
	nots := func(many int) []api.Term { return append(slices.Repeat([]api.Term{not}, many), none) }
	four, five := given("a b c d", 1, 2, 3, 4), given("a b c d none", 1, 2, 3, 4)
	for _, c := range []struct {
		l []api.Term
		e api.Errno
	}{
		{nots(40), api.ErrFull},
		{slices.Repeat([]api.Term{not}, 41), api.ErrFull},
		{make([]api.Term, 41), api.ErrFull},
		{slices.Repeat([]api.Term{not}, 40), api.ErrArg},
		{append(nots(12), none), api.ErrArg},
		{[]api.Term{not, {Op: api.TmVar, Name: "not"}}, api.ErrArg},
		{[]api.Term{{Op: api.TmAnd}, none, {Op: api.TmNum, N: -1}}, api.ErrArg},
		{nots(39), api.ErrDeep},
		{nots(12), api.ErrDeep},
		{nots(11), api.ErrType},
		{nots(1), api.ErrType},
		{[]api.Term{{Op: api.TmAnd}, none, {Op: api.TmTrue}}, api.ErrType},
		{negs(12, []api.Term{none}), api.ErrDeep},
		{negs(11, []api.Term{none}), api.ErrNone},
		{nots(0), api.ErrNone},
	} {
		check(t, c.l, four, 0, c.e)
		check(t, c.l, api.Env{}, 0, c.e)
		check(t, c.l, five, 0, api.ErrArg)
	}
}

// El1: no terms hold, whatever the Env is; an expression just if it is true.
func TestHolds(t *testing.T) {
	env := given("x", 1)
	env.In = []string{"open"}
	for _, env := range []api.Env{{}, env, given("a b c d e"), within("open")} {
		for _, l := range [][]api.Term{nil, {}, make([]api.Term, 0, 9)} {
			if !eval.Holds(l, env) {
				t.Errorf("Holds of no terms, by %v: false", env)
			}
		}
	}
	for s, want := range map[string]bool{
		"true": true, "false": false, "x == 1": true, "x == 2": false, "in(open)": true, "in(shut)": false, "not x < 1": true,
		"1": false, "x": false, "2 - 1": false, "x * x": false, "--1": false, "0": false, "2": false, "-1": false,
		"none": false, "none == none": false, "true or none == 1": false, "not none == 1": false,
		"not 0": false, "1 and 1": false, "true == true": false, "true or 1": false,
	} {
		if got := eval.Holds(parsed(t, s), env); got != want {
			t.Errorf("Holds of %s: %t, not %t", s, got, want)
		}
	}
	for _, l := range [][]api.Term{{{}}, {{Op: api.TmNot}}, {{Op: api.TmTrue}, {Op: api.TmTrue}}, {{Op: api.TmTrue, N: 1}}, slices.Repeat([]api.Term{{Op: api.TmTrue}}, 41)} {
		if eval.Holds(l, env) {
			t.Errorf("Holds(%v): true", l)
		}
	}
	if eval.Holds(parsed(t, "true"), given("a b c d e")) {
		t.Error("Holds of true by too many variables: true")
	}
}

// some is terms that words stand for: digits a TmNum, @open a TmIn, a sign what it does, a name a TmVar; a - below one is neg.
func some(words string) []api.Term {
	signs := strings.Fields("(none) (number) (variable) neg + - * min max true false (state) not == != < <= > >= and or")
	var l []api.Term
	for _, word := range strings.Fields(words) {
		one := api.Term{Op: slices.Index(signs, word)}
		if n, err := strconv.Atoi(word); err == nil {
			one = api.Term{Op: 1, N: n}
		} else if name, is := strings.CutPrefix(word, "@"); is {
			one = api.Term{Op: 11, Name: name}
		} else if one.Op < 0 {
			one = api.Term{Op: 2, Name: word}
		}
		l = append(l, one)
	}
	return l
}

// arity is how many are below an Op, as the document has it.
func arity(op int) int {
	switch op {
	case 1, 2, 9, 10, 11:
		return 0
	case 3, 12:
		return 1
	}
	return 2
}

// every calls with each expression of so many terms out of some.
func every(size int, of []api.Term, do func(l []api.Term)) {
	var l []api.Term
	var more func(open int)
	more = func(open int) {
		if open == 0 || len(l)+open > size {
			if open == 0 && len(l) == size {
				do(l)
			}
			return
		}
		for _, one := range of {
			l = append(l, one)
			more(open - 1 + arity(one.Op))
			l = l[:len(l)-1]
		}
	}
	more(1)
}

// thing is what an expression is by another reading of the document's words, from its first term on: its number, its type, whether some variable of it is not there, and what stands behind it.
type thing struct {
	n, ty   int
	missing bool
	rest    []api.Term
}

// nearest is the nearest value.
func nearest(n int) int { return max(-1000000, min(n, 1000000)) }

// another is what an expression is by the other reading.
func another(l []api.Term, env api.Env) thing {
	below, rest, missing := make([]thing, arity(l[0].Op)), l[1:], false
	var sides [2]int
	for i := range below {
		below[i] = another(rest, env)
		sides[i], rest, missing = below[i].n, below[i].rest, missing || below[i].missing
	}
	a, b := sides[0], sides[1]
	// typed is a type, if all below are of another one.
	typed := func(own, asked int) int {
		if slices.ContainsFunc(below, func(x thing) bool { return x.ty != asked }) {
			return 0
		}
		return own
	}
	number := func(n int) thing { return thing{nearest(n), typed(1, 1), missing, rest} }
	truth := func(is bool, asked int) thing {
		if is {
			return thing{1, typed(2, asked), missing, rest}
		}
		return thing{0, typed(2, asked), missing, rest}
	}
	switch l[0].Op {
	case 1:
		return number(l[0].N)
	case 2:
		for at, v := range env.Vars {
			if v.Name == l[0].Name {
				return number(env.Vals[at])
			}
		}
		return thing{0, 1, true, rest}
	case 3:
		return number(-a)
	case 4:
		return number(a + b)
	case 5:
		return number(a - b)
	case 6:
		return number(a * b)
	case 7:
		return number((a + b - max(a-b, b-a)) / 2)
	case 8:
		return number((a + b + max(a-b, b-a)) / 2)
	case 9:
		return truth(true, 2)
	case 10:
		return truth(false, 2)
	case 11:
		return truth(slices.Contains(env.In, l[0].Name), 2)
	case 12:
		return truth(a == 0, 2)
	case 13:
		return truth(a-b == 0, 1)
	case 14:
		return truth(a-b != 0, 1)
	case 15:
		return truth(b-a > 0, 1)
	case 16:
		return truth(b-a >= 0, 1)
	case 17:
		return truth(a-b > 0, 1)
	case 18:
		return truth(a-b >= 0, 1)
	case 19:
		return truth(a+b == 2, 2)
	}
	return truth(a+b > 0, 2)
}

// envs are those by which all small expressions are reckoned.
func envs() []api.Env {
	l := []api.Env{
		{}, given("x", 2), given("y x", 1, -3), given("x y", math.MaxInt, math.MinInt), given("x y x y", 1000, 0, 5, 6), given("x y", 1, 1),
	}
	for i := range l {
		l[i].In = [][]string{{}, {"open"}, {"open", "shut", "open"}, {"shut"}}[i%4]
	}
	return l
}

// El1, El2: all small expressions, against the other reading; what they come to is a value, of TyBool 0 or 1.
func TestAllSmallExpressions(t *testing.T) {
	all := envs()
	told := map[api.Errno]int{}
	held := func(l []api.Term) {
		for _, env := range all {
			want := another(l, env)
			e := api.OK
			if want.ty == 0 {
				e = api.ErrType
			} else if want.missing {
				e = api.ErrNone
			}
			if e != api.OK {
				want.n = 0
			}
			told[e]++
			check(t, l, env, want.n, e)
			got, _ := eval.At(l, env)
			if got < -api.Big || got > api.Big || want.ty == api.TyBool && got != 0 && got != 1 {
				t.Errorf("At(%v, %v): %d", l, env, got)
			}
		}
	}
	for size := 1; size <= 4; size++ {
		every(size, some("0 1000000 x y true @open neg + - * min max not == != < <= > >= and or"), held)
	}
	every(5, some("7 x y - * min < == and or not neg"), held)
	every(6, some("1 x - < not and neg"), held)
	every(7, some("x - >= or @shut"), held)
	for _, e := range []api.Errno{api.OK, api.ErrType, api.ErrNone} {
		if told[e] < 1000 {
			t.Errorf("error %d is told just %d times", e, told[e])
		}
	}
}

// El2: what expressions with great numbers come to is a value, of TyBool 0 or 1.
func TestWhatFollows(t *testing.T) {
	great := []int{math.MinInt, -1 << 40, -1000001, -1000000, -999999, -1001, -1, 0, 1, 1001, 999999, 1000000, 1000001, 1 << 40, math.MaxInt}
	texts := []string{
		"-x", "x + y", "x - y", "x * y", "min(x, y)", "max(x, y)", "x * y * x", "x + y - x * y", "-x * -y - x - y", "max(x * x, y * y) + min(x - y, y - x)",
		"x == y", "x != y", "x < y", "x <= y", "x > y", "x >= y", "x * y < x + y and not x == y", "x < y or y < x or x == y", "not x - 1 < x",
	}
	for _, s := range texts {
		l := parsed(t, s)
		for _, x := range great {
			for _, y := range great {
				n, e := eval.At(l, given("x y", x, y))
				if e != api.OK || n < -1000000 || n > 1000000 || term.Type(l) == api.TyBool && n != 0 && n != 1 {
					t.Errorf("%s, by %d and %d: %d, error %d", s, x, y, n, e)
				}
				check(t, l, given("x y", x, y), another(l, given("x y", x, y)).n, api.OK)
			}
		}
	}
}

// R3, R4: no call writes to the lists that it is handed, nor behind their ends; a second answer is the first one.
func TestHandedIn(t *testing.T) {
	lists := [][]api.Term{nil, {{}}, {{Op: api.TmAdd}, {Op: api.TmNum}}, negs(12, sum(1)), sum(20), sum(21)}
	for _, s := range append(untyped(), "x + 1 < 3", "x - y * x", "in(open) or in(shut)", "z", "min(x, -y) == max(y, x)", "not (true or z < 1)") {
		lists = append(lists, parsed(t, s))
	}
	spareTerm, spareVar := api.Term{Op: api.TmIn, N: 9, Name: "spare"}, api.Var{Name: "z", Lo: 1, Hi: 2, Init: 1}
	for _, l := range lists {
		for _, env := range append(envs(), given("a b c d e")) {
			terms := slices.Concat(l, []api.Term{spareTerm, spareTerm})
			vars := slices.Concat(env.Vars, []api.Var{spareVar, spareVar})
			in := slices.Concat(env.In, []string{"lit", "dark"})
			handed := api.Env{Vars: vars[:len(env.Vars)], Vals: env.Vals, In: in[:len(env.In)]}
			wasTerms, wasVars, wasIn := slices.Clone(terms), slices.Clone(vars), slices.Clone(in)
			n, e := eval.At(terms[:len(l)], handed)
			holds := eval.Holds(terms[:len(l)], handed)
			if f := eval.Check(terms[:len(l)], handed); f != e {
				t.Errorf("Check(%v, %v): error %d, not At's %d", l, env, f, e)
			}
			if m, f := eval.At(terms[:len(l)], handed); m != n || f != e || eval.Holds(terms[:len(l)], handed) != holds {
				t.Errorf("%v, by %v, a second time: %d, error %d", l, env, m, f)
			}
			if !slices.Equal(terms, wasTerms) || !slices.Equal(vars, wasVars) || !slices.Equal(in, wasIn) || handed.Vals != env.Vals {
				t.Errorf("what was handed in is now %v, %v, %v", terms, vars, in)
			}
		}
	}
}

// The tests' own words: each expression of all Ops is one, and the names are names.
func TestOwnWords(t *testing.T) {
	for op := 1; op <= 20; op++ {
		if arity(op) != term.Arity(op) {
			t.Errorf("the test's own arity of %d is %d", op, arity(op))
		}
	}
	for _, one := range some("0 1 7 1000000 x y z neg + - * min max true false @open @shut not == != < <= > >= and or") {
		if one.Name != "" && !names.Is(one.Name) || term.Arity(one.Op) < 0 {
			t.Errorf("the test's own term %v is none", one)
		}
	}
}
