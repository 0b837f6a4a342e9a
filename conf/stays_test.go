package conf_test

import (
	"slices"
	"testing"

	"semblance/api"
	"semblance/atlas"
	"semblance/charts"
	"semblance/conf"
)

// answers are all that is answered of an atlas and a configuration.
type answers struct {
	check  api.Errno
	fill   uint64
	first  api.Config
	leaves []string
	env    api.Env
}

// asked are the answers, in the order that is told: which one is asked for first.
func asked(a *atlas.Atlas, x api.Config, first int) answers {
	var got answers
	for at := range 5 {
		switch (first + at) % 5 {
		case 0:
			got.check = conf.Check(a, x)
		case 1:
			got.fill = conf.Fill(a, x.Active)
		case 2:
			got.first = conf.First(a)
		case 3:
			got.leaves = conf.Leaves(a, x)
		case 4:
			got.env = conf.Env(a, x)
		}
	}
	return got
}

// same tells whether answers are the same.
func same(a, b answers) bool {
	return a.check == b.check && a.fill == b.fill && a.first == b.first && slices.Equal(a.leaves, b.leaves) && sameEnv(a.env, b.env)
}

// wreck clears the lists of answers, and the room behind them.
func wreck(got answers) {
	clear(got.leaves[:cap(got.leaves)])
	clear(got.env.Vars[:cap(got.env.Vars)])
	clear(got.env.In[:cap(got.env.In)])
}

// R3, R4: what is answered is the same each time, in any order of asking, and stays as it was, whatever becomes of other answers; so does the atlas.
func TestStays(t *testing.T) {
	for seed, c := range charts.Several(t) {
		x := charts.Config(c, seed)
		a := charts.Atlas(t, c)
		was := asked(a, x, 0)
		for first := range 5 {
			got := asked(a, x, first)
			if !same(got, was) || !same(asked(charts.Atlas(t, c), x, first), was) {
				t.Errorf("of %v in %v: %v, and then %v", x, c, was, got)
			}
			wreck(got)
		}
		asked(a, api.Config{Active: ^x.Active, Vals: [4]int{-9, -9, -9, -9}}, seed%5)
		if got := asked(a, x, 0); !same(got, was) || !charts.Same(a.Chart(), c) {
			t.Errorf("of %v in %v: %v, and then %v", x, c, was, got)
		}
	}
}

// R3: the lists of one answer share no memory with each other, nor with the other answers.
func TestApart(t *testing.T) {
	a := charts.Atlas(t, charts.Within(t, charts.Sound))
	x := charts.Config(a.Chart(), 1)
	got, kept := asked(a, x, 0), asked(a, x, 0)
	clear(got.env.In[:cap(got.env.In)])
	if !slices.Equal(got.env.Vars, kept.env.Vars) || !slices.Equal(got.leaves, kept.leaves) {
		t.Errorf("without the names: %v", got)
	}
	clear(got.leaves[:cap(got.leaves)])
	clear(got.env.Vars[:cap(got.env.Vars)])
	if !same(kept, asked(a, x, 0)) {
		t.Errorf("what was answered: %v", kept)
	}
}
