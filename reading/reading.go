// Package reading is for the tests of the layers that read tokens: it puts tokens together, and holds what is read against what it must be.
package reading

import (
	"slices"
	"strings"

	"semblance/api"
	"semblance/cursor"
	"semblance/scan"
)

// Test is what a test is asked for here; the library's own is of it.
type Test interface {
	Helper()
	Errorf(format string, args ...any)
	Fatalf(format string, args ...any)
}

// Tokens is the tokens of a text, the end behind them.
func Tokens(t Test, s string) []api.Token {
	t.Helper()
	l, at, e := scan.Tokens(s)
	if e != api.OK {
		t.Fatalf("Tokens(%q): at %v, error %d", s, at, e)
	}
	return l
}

// Marked is a text out of which its @ is taken, and the place at which it stood.
func Marked(t Test, s string) (string, api.Pos) {
	t.Helper()
	ahead, behind, is := strings.Cut(s, "@")
	if !is || strings.Contains(behind, "@") {
		t.Fatalf("the test's own text %q has not one @", s)
	}
	line := strings.Count(ahead, "\n")
	return ahead + behind, api.Pos{Line: line + 1, Col: len(ahead) - strings.LastIndex(ahead, "\n")}
}

// Whole is what a text is read as, all of which must be that.
func Whole[T any](t Test, s string, read func(c *cursor.Cursor) T) T {
	t.Helper()
	c := cursor.New(Tokens(t, s))
	got := read(c)
	if c.Want(api.TokEnd, ""); !c.Good() {
		t.Fatalf("the test's own text %q is not what it must be", s)
	}
	return got
}

// Count is how many tokens a text has, line by line, so that there may be more than layer 3 lets stand in one text.
func Count(t Test, s string) int {
	t.Helper()
	many := 0
	for line := range strings.Lines(s) {
		many += len(Tokens(t, line)) - 1
	}
	return many
}

// Between tells what stands between tokens, by the place of the one behind, and both texts.
type Between func(at int, left, right string) string

// Apart is the text of tokens, with what is told between them.
func Apart(l []api.Token, between Between) string {
	var s strings.Builder
	for at, one := range l {
		if at > 0 {
			s.WriteString(between(at, l[at-1].Text, one.Text))
		}
		s.WriteString(one.Text)
	}
	return s.String()
}

// Ways are those in which tokens may be set apart: by blanks, line feeds, remarks, as little as may be, and by each of them in turn.
func Ways() []Between {
	always := func(text string) Between { return func(int, string, string) string { return text } }
	return []Between{
		always(" "), always("\n"), always("\t \r\n"), Bare, always(" # } ; $ chart \xff\n"),
		func(at int, left, right string) string {
			return [5]string{Bare(at, left, right), " ", "\n\n", "\r", "# x\n"}[at*at%5]
		},
	}
}

// Bare is nothing, or a blank where both would be another token, or other ones, without one.
func Bare(_ int, left, right string) string {
	l, _, e := scan.Tokens(left + right)
	if right == "" || e == api.OK && len(l) == 3 && l[0].Text == left && l[1].Text == right {
		return ""
	}
	return " "
}

// Check holds what Read of tokens is against what it must be; then a token must be next, and there must be no fault.
func Check[T any](t Test, l []api.Token, read func(c *cursor.Cursor) T, same func(a, b T) bool, want T, next api.Token) {
	t.Helper()
	c := cursor.New(l)
	got := read(c)
	if at, e := c.Fault(); e != api.OK || !same(got, want) {
		t.Errorf("Read of %v: %v, fault %d at %v, not %v", l, got, e, at, want)
	}
	if c.Next() != next {
		t.Errorf("Read of %v: then %v, not %v", l, c.Next(), next)
	}
}

// CheckFault: Read of tokens must be the zero value, and there must be a fault at a place.
func CheckFault[T any](t Test, l []api.Token, read func(c *cursor.Cursor) T, same func(a, b T) bool, want api.Pos, fault api.Errno) {
	t.Helper()
	var none T
	c := cursor.New(l)
	got := read(c)
	if at, e := c.Fault(); !same(got, none) || at != want || e != fault {
		t.Errorf("Read of %v: %v, fault %d at %v, not fault %d at %v", l, got, e, at, fault, want)
	}
}

// Words are the tokens that words are; a word with a ! ahead is of a kind that it is not of: a mark a name, another one a mark or a name; a ! alone is an end.
func Words(words string) []api.Token {
	var l []api.Token
	for word := range strings.FieldsSeq(words) {
		bare, other := strings.CutPrefix(word, "!")
		kind := kindOf(bare)
		if other {
			kind = otherKind(kind)
		}
		l = append(l, api.Token{Kind: kind, Text: bare})
	}
	return l
}

// Placed is tokens, the end behind them, each at a place of its own.
func Placed(l []api.Token) []api.Token {
	l = append(slices.Clone(l), api.Token{Kind: api.TokEnd})
	for at := range l {
		l[at].At = api.Pos{Line: at + 1, Col: 7}
	}
	return l
}

// Every calls with each list of at most so many out of some; what tells false of a list is not asked of a longer one that begins with it.
func Every[T any](most int, of []T, do func(l []T) bool) {
	var l []T
	var more func()
	more = func() {
		if !do(l) || len(l) == most {
			return
		}
		for _, one := range of {
			l = append(l, one)
			more()
			l = l[:len(l)-1]
		}
	}
	more()
}

// kindOf is the kind of the token that a word is.
func kindOf(word string) int {
	switch {
	case word == "":
		return api.TokEnd
	case word[0] >= 'a' && word[0] <= 'z':
		return api.TokName
	case word[0] >= '0' && word[0] <= '9':
		return api.TokNum
	}
	return api.TokMark
}

// otherKind is another kind; of an end none.
func otherKind(kind int) int {
	switch kind {
	case api.TokEnd:
		return kind
	case api.TokName:
		return api.TokMark
	}
	return api.TokName
}
