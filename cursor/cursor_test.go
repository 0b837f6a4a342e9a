package cursor_test

import (
	"math"
	"slices"
	"strings"
	"testing"

	"semblance/api"
	"semblance/cursor"
	"semblance/names"
	"semblance/reading"
	"semblance/val"
)

// tok is a token at a line, and a byte in it.
func tok(kind int, text string, line, col int) api.Token {
	return api.Token{Kind: kind, Text: text, At: api.Pos{Line: line, Col: col}}
}

// checkGood: there is no fault, and that token is next.
func checkGood(t *testing.T, c *cursor.Cursor, next api.Token) {
	t.Helper()
	if at, e := c.Fault(); at != (api.Pos{}) || e != api.OK || !c.Good() {
		t.Errorf("Fault: at %v, error %d, Good %v, not none", at, e, c.Good())
	}
	if got := c.Next(); got != next {
		t.Errorf("Next: %v, not %v", got, next)
	}
}

// checkFault: there is that fault, whatever is asked behind it, and nothing is told any more.
func checkFault(t *testing.T, c *cursor.Cursor, line, col int, want api.Errno) {
	t.Helper()
	for range 3 {
		if at, e := c.Fault(); at != (api.Pos{Line: line, Col: col}) || e != want || c.Good() {
			t.Errorf("Fault: at %v, error %d, Good %v, not error %d at line %d, byte %d", at, e, c.Good(), want, line, col)
		}
		checkMute(t, c)
	}
}

// checkMute: all that a cursor tells with a fault, at each kind of token, and at texts that stand in the lists of the tests.
func checkMute(t *testing.T, c *cursor.Cursor) {
	t.Helper()
	for _, kind := range []int{api.TokEnd, api.TokName, api.TokNum, api.TokMark, -1, 4} {
		for _, text := range []string{"", "a", "1", ";", "or", "b", "->", "7"} {
			if c.Is(kind, text) {
				t.Errorf("Is(%d, %q), with a fault: true", kind, text)
			}
			if c.Take(kind, text) {
				t.Errorf("Take(%d, %q), with a fault: true", kind, text)
			}
			c.Want(kind, text)
		}
	}
	if got := c.Name(); got != "" {
		t.Errorf("Name, with a fault: %q", got)
	}
	for _, most := range []int{api.Big, 0, -1, math.MaxInt, math.MinInt} {
		if got := c.Number(most); got != 0 {
			t.Errorf("Number(%d), with a fault: %d", most, got)
		}
	}
	if got := c.Next(); got != (api.Token{}) {
		t.Errorf("Next, with a fault: %v", got)
	}
	for _, e := range []api.Errno{api.OK, api.ErrText, api.ErrRange, api.ErrBudget, -1, 99} {
		c.Fail(e)
	}
}

// Cr1, Cr2, Cr3: the document's example.
func TestExample(t *testing.T) {
	c := cursor.New(reading.Tokens(t, "a 1"))
	if got := c.Name(); got != "a" {
		t.Errorf("Name: %q", got)
	}
	if got := c.Number(1); got != 1 {
		t.Errorf("Number: %d", got)
	}
	checkGood(t, c, tok(api.TokEnd, "", 1, 4))
}

// Cr1: Next tells the token that is next, and goes past none, however often it is asked; so does Is.
func TestNext(t *testing.T) {
	l := reading.Tokens(t, "a 1 -> or\n b2")
	c := cursor.New(l)
	for i, want := range l {
		for range 3 {
			checkGood(t, c, want)
			if !c.Is(want.Kind, want.Text) {
				t.Errorf("Is of token %d: false", i)
			}
		}
		if !c.Take(want.Kind, want.Text) {
			t.Errorf("Take of token %d: false", i)
		}
	}
	checkGood(t, c, tok(api.TokEnd, "", 2, 4))
}

// Cr1: a token is of a kind, and says something: both must be as it is asked for.
func TestIs(t *testing.T) {
	for _, is := range []api.Token{
		tok(api.TokName, "a", 1, 1), tok(api.TokName, "or", 1, 1), tok(api.TokNum, "1", 1, 1), tok(api.TokMark, "->", 1, 1), tok(api.TokEnd, "", 1, 1),
		tok(api.TokName, "1", 1, 1), tok(api.TokMark, "a", 1, 1), tok(api.TokNum, "", 1, 1), tok(api.TokEnd, "a", 1, 1), tok(7, "a", 1, 1), tok(-7, "", 1, 1),
	} {
		for _, kind := range []int{api.TokEnd, api.TokName, api.TokNum, api.TokMark, 7, -7} {
			for _, text := range []string{"", "a", "A", "aa", "a ", "or", "1", "01", "-", "->", ">"} {
				want := kind == is.Kind && text == is.Text
				behind := tok(api.TokMark, ";", 1, 9)
				c := cursor.New([]api.Token{is, behind})
				if got := c.Is(kind, text); got != want {
					t.Errorf("Is(%d, %q) of %v: %v", kind, text, is, got)
				}
				checkGood(t, c, is)
				if got := c.Take(kind, text); got != want {
					t.Errorf("Take(%d, %q) of %v: %v", kind, text, is, got)
				}
				if !want {
					checkGood(t, c, is)
					c.Want(kind, text)
					checkFault(t, c, 1, 1, api.ErrText)
					continue
				}
				checkGood(t, c, behind)
				c = cursor.New([]api.Token{is, behind})
				c.Want(kind, text)
				checkGood(t, c, behind)
			}
		}
	}
}

// Cr1, Cr2: a chart's text, gone through by each of the calls.
func TestChart(t *testing.T) {
	c := cursor.New(reading.Tokens(t, "chart door { event go;\n  var n 0 .. 1000 = 7; leaf a; }"))
	said := func(got, want string) {
		t.Helper()
		if got != want {
			t.Errorf("Name: %q, not %q", got, want)
		}
	}
	counted := func(got, want int) {
		t.Helper()
		if got != want {
			t.Errorf("Number: %d, not %d", got, want)
		}
	}
	c.Want(api.TokName, "chart")
	said(c.Name(), "door")
	c.Want(api.TokMark, "{")
	if c.Take(api.TokName, "var") || !c.Take(api.TokName, "event") {
		t.Error("Take: not the event")
	}
	said(c.Name(), "go")
	if c.Take(api.TokMark, ",") {
		t.Error("Take: a comma")
	}
	c.Want(api.TokMark, ";")
	if !c.Is(api.TokName, "var") {
		t.Error("Is: no var")
	}
	c.Want(api.TokName, "var")
	said(c.Name(), "n")
	counted(c.Number(api.MaxAbs), 0)
	c.Want(api.TokMark, "..")
	counted(c.Number(api.MaxAbs), 1000)
	c.Want(api.TokMark, "=")
	counted(c.Number(api.MaxAbs), 7)
	c.Want(api.TokMark, ";")
	checkGood(t, c, tok(api.TokName, "leaf", 2, 24))
	said(c.Name(), "")
	checkFault(t, c, 2, 24, api.ErrText)
}

// Cr1: behind the last token there is an end of the last one's place, which is gone past never; of no tokens it is at 0, 0.
func TestBehindTheLast(t *testing.T) {
	for _, l := range [][]api.Token{
		nil,
		{},
		{tok(api.TokEnd, "", 3, 9)},
		{tok(api.TokEnd, "a", 3, 9)},
		{tok(api.TokName, "a", 3, 9)},
		{tok(api.TokName, "a", 1, 1), tok(api.TokNum, "1", 3, 9)},
		{tok(api.TokName, "a", 7, 7), tok(api.TokMark, ";", 3, 9), tok(-1, "", 3, 9)},
		{tok(api.TokEnd, "", 5, 5), tok(api.TokEnd, "", -3, -9)},
		{{}},
	} {
		end := api.Token{Kind: api.TokEnd}
		if len(l) > 0 {
			end.At = l[len(l)-1].At
		}
		// behind is a cursor of its own behind the last token, some ends further on.
		behind := func(ends int) *cursor.Cursor {
			c := cursor.New(l)
			for _, one := range l {
				c.Want(one.Kind, one.Text)
			}
			for range ends {
				checkGood(t, c, end)
				if !c.Is(api.TokEnd, "") || c.Is(api.TokEnd, "a") || c.Is(api.TokName, "") {
					t.Errorf("Is, behind %v", l)
				}
				c.Want(api.TokEnd, "")
				if !c.Take(api.TokEnd, "") || c.Take(api.TokEnd, "a") || c.Take(api.TokName, "a") {
					t.Errorf("Take, behind %v", l)
				}
			}
			checkGood(t, c, end)
			return c
		}
		for _, ends := range []int{0, 1, 5} {
			c := behind(ends)
			if got := c.Name(); got != "" {
				t.Errorf("Name, behind %v: %q", l, got)
			}
			checkFault(t, c, end.At.Line, end.At.Col, api.ErrText)
			c = behind(ends)
			if got := c.Number(math.MaxInt); got != 0 {
				t.Errorf("Number, behind %v: %d", l, got)
			}
			checkFault(t, c, end.At.Line, end.At.Col, api.ErrText)
			c = behind(ends)
			c.Want(api.TokMark, ";")
			checkFault(t, c, end.At.Line, end.At.Col, api.ErrText)
			c = behind(ends)
			c.Want(api.TokEnd, "a")
			checkFault(t, c, end.At.Line, end.At.Col, api.ErrText)
			c = behind(ends)
			c.Fail(api.ErrFull)
			checkFault(t, c, end.At.Line, end.At.Col, api.ErrFull)
		}
	}
}

// Cr1: an end that stands in the middle is a token as others are: what stands behind it is told.
func TestEndsInTheMiddle(t *testing.T) {
	l := []api.Token{tok(api.TokEnd, "", 1, 1), tok(api.TokName, "a", 1, 2), tok(api.TokEnd, "", 1, 3), tok(api.TokEnd, "x", 1, 4), tok(api.TokNum, "7", 1, 5)}
	c := cursor.New(l)
	checkGood(t, c, l[0])
	c.Want(api.TokEnd, "")
	if got := c.Name(); got != "a" {
		t.Errorf("Name: %q", got)
	}
	if !c.Take(api.TokEnd, "") {
		t.Error("Take: no end")
	}
	if c.Take(api.TokEnd, "") {
		t.Error("Take: an end that says nothing")
	}
	checkGood(t, c, l[3])
	c.Want(api.TokEnd, "x")
	if got := c.Number(7); got != 7 {
		t.Errorf("Number: %d", got)
	}
	checkGood(t, c, tok(api.TokEnd, "", 1, 5))
	c = cursor.New(l)
	if got := c.Name(); got != "" {
		t.Errorf("Name at an end: %q", got)
	}
	checkFault(t, c, 1, 1, api.ErrText)
}

// Cr2: a name is a TokName that is a name; a keyword is none.
func TestName(t *testing.T) {
	behind := tok(api.TokMark, ";", 2, 9)
	for _, s := range []string{"a", "z", "a0", "a_", "door", "orr", "abcdefghijkl"} {
		c := cursor.New([]api.Token{tok(api.TokName, s, 2, 3), behind})
		if got := c.Name(); got != s {
			t.Errorf("Name of %q: %q", s, got)
		}
		checkGood(t, c, behind)
	}
	for _, bad := range []api.Token{
		tok(api.TokName, "chart", 2, 3), tok(api.TokName, "event", 2, 3), tok(api.TokName, "var", 2, 3), tok(api.TokName, "leaf", 2, 3),
		tok(api.TokName, "or", 2, 3), tok(api.TokName, "and", 2, 3), tok(api.TokName, "enter", 2, 3), tok(api.TokName, "exit", 2, 3),
		tok(api.TokName, "on", 2, 3), tok(api.TokName, "auto", 2, 3), tok(api.TokName, "any", 2, 3), tok(api.TokName, "in", 2, 3),
		tok(api.TokName, "min", 2, 3), tok(api.TokName, "max", 2, 3), tok(api.TokName, "not", 2, 3), tok(api.TokName, "true", 2, 3), tok(api.TokName, "false", 2, 3),
		tok(api.TokName, "", 2, 3), tok(api.TokName, "A", 2, 3), tok(api.TokName, "1", 2, 3), tok(api.TokName, "a b", 2, 3), tok(api.TokName, "_a", 2, 3),
		tok(api.TokName, "abcdefghijklm", 2, 3), tok(api.TokName, "\xff", 2, 3), tok(api.TokName, "->", 2, 3),
		tok(api.TokNum, "a", 2, 3), tok(api.TokNum, "1", 2, 3), tok(api.TokMark, "a", 2, 3), tok(api.TokMark, ";", 2, 3),
		tok(api.TokEnd, "a", 2, 3), tok(api.TokEnd, "", 2, 3), tok(4, "a", 2, 3), tok(-1, "a", 2, 3),
	} {
		c := cursor.New([]api.Token{bad, behind})
		if got := c.Name(); got != "" {
			t.Errorf("Name of %v: %q", bad, got)
		}
		checkFault(t, c, 2, 3, api.ErrText)
	}
}

// Cr2: a number is a TokNum, got by 1's Get, at most so great.
func TestNumber(t *testing.T) {
	behind := tok(api.TokMark, ";", 2, 9)
	for _, c := range []struct {
		kind int
		text string
		most int
		want int
		e    api.Errno
	}{
		{api.TokNum, "0", 0, 0, api.OK},
		{api.TokNum, "1", 0, 0, api.ErrRange},
		{api.TokNum, "1", 1, 1, api.OK},
		{api.TokNum, "2", 1, 0, api.ErrRange},
		{api.TokNum, "999", 1000, 999, api.OK},
		{api.TokNum, "1000", 1000, 1000, api.OK},
		{api.TokNum, "1001", 1000, 0, api.ErrRange},
		{api.TokNum, "1000000", 1000000, 1000000, api.OK},
		{api.TokNum, "1000000", 999999, 0, api.ErrRange},
		{api.TokNum, "1000000", math.MaxInt, 1000000, api.OK},
		{api.TokNum, "1000001", 1000000, 0, api.ErrRange},
		{api.TokNum, "1000001", math.MaxInt, 0, api.ErrRange},
		{api.TokNum, "999999999", math.MaxInt, 0, api.ErrRange},
		{api.TokNum, "18446744073709551617", math.MaxInt, 0, api.ErrRange},
		{api.TokNum, "0", -1, 0, api.ErrRange},
		{api.TokNum, "5", -1, 0, api.ErrRange},
		{api.TokNum, "0", math.MinInt, 0, api.ErrRange},
		{api.TokNum, "007", 1000, 0, api.ErrText},
		{api.TokNum, "00", 0, 0, api.ErrText},
		{api.TokNum, "09999999", 1, 0, api.ErrText},
		{api.TokNum, "007", -1, 0, api.ErrText},
		{api.TokNum, "", 1000, 0, api.ErrText},
		{api.TokNum, "-1", 1000, 0, api.ErrText},
		{api.TokNum, "1a", 1000, 0, api.ErrText},
		{api.TokNum, "a", -1, 0, api.ErrText},
		{api.TokNum, "1 ", 1000, 0, api.ErrText},
		{api.TokNum, "1000001x", 1000, 0, api.ErrText},
		{api.TokName, "1", 1000, 0, api.ErrText},
		{api.TokName, "a", 1000, 0, api.ErrText},
		{api.TokName, "1000001", 1000, 0, api.ErrText},
		{api.TokName, "2", 1, 0, api.ErrText},
		{api.TokMark, "1", 1000, 0, api.ErrText},
		{api.TokMark, "-", 1000, 0, api.ErrText},
		{api.TokEnd, "1", 1000, 0, api.ErrText},
		{api.TokEnd, "", 1000, 0, api.ErrText},
		{4, "1", 1000, 0, api.ErrText},
		{-1, "1", 1000, 0, api.ErrText},
		{-1, "1", -1, 0, api.ErrText},
	} {
		u := cursor.New([]api.Token{tok(c.kind, c.text, 2, 3), behind})
		if got := u.Number(c.most); got != c.want {
			t.Errorf("Number(%d) of %d, %q: %d, not %d", c.most, c.kind, c.text, got, c.want)
		}
		if c.e == api.OK {
			checkGood(t, u, behind)
		} else {
			checkFault(t, u, 2, 3, c.e)
		}
	}
}

// Cr3: Fail tells whatever error at the next token; OK is none, and changes nothing.
func TestFail(t *testing.T) {
	l := reading.Tokens(t, "a 1\n ;")
	for n, want := range l {
		for e := api.Errno(-2); e < 20; e++ {
			c := cursor.New(l)
			for _, one := range l[:n] {
				c.Want(one.Kind, one.Text)
			}
			c.Fail(api.OK)
			checkGood(t, c, want)
			c.Fail(e)
			if e == api.OK {
				checkGood(t, c, want)
				continue
			}
			if at, got := c.Fault(); at != want.At || got != e || c.Good() {
				t.Errorf("Fault: at %v, error %d, not error %d at %v", at, got, e, want.At)
			}
			c.Fail(api.OK)
			checkFault(t, c, want.At.Line, want.At.Col, e)
		}
	}
}

// Cr3: the first fault stays, of whatever call it came, and whatever would be one behind it.
func TestFirstFault(t *testing.T) {
	fails := []struct {
		do func(c *cursor.Cursor)
		e  api.Errno
	}{
		{func(c *cursor.Cursor) { c.Want(api.TokMark, ";") }, api.ErrText},
		{func(c *cursor.Cursor) { c.Name() }, api.ErrText},
		{func(c *cursor.Cursor) { c.Number(6) }, api.ErrRange},
		{func(c *cursor.Cursor) { c.Fail(api.ErrDeep) }, api.ErrDeep},
		{func(c *cursor.Cursor) { c.Fail(api.ErrBudget) }, api.ErrBudget},
	}
	for _, first := range fails {
		for _, second := range fails {
			c := cursor.New(reading.Tokens(t, "a\n 7 ;"))
			c.Want(api.TokName, "a")
			first.do(c)
			second.do(c)
			checkFault(t, c, 2, 2, first.e)
		}
	}
}

// Cr3, R1: a cursor that New did not give is as one with a fault; that is ErrState at 0, 0, and stays so.
func TestNobodys(t *testing.T) {
	var none *cursor.Cursor
	var zero cursor.Cursor
	emptied := cursor.New(reading.Tokens(t, "a 1"))
	*emptied = cursor.Cursor{}
	for _, c := range []*cursor.Cursor{none, &zero, new(cursor.Cursor), {}, emptied} {
		checkFault(t, c, 0, 0, api.ErrState)
	}
	for _, do := range []func(c *cursor.Cursor){
		func(c *cursor.Cursor) { c.Next() },
		func(c *cursor.Cursor) { c.Is(api.TokEnd, "") },
		func(c *cursor.Cursor) { c.Take(api.TokEnd, "") },
		func(c *cursor.Cursor) { c.Want(api.TokEnd, "") },
		func(c *cursor.Cursor) { c.Want(api.TokName, "a") },
		func(c *cursor.Cursor) { c.Name() },
		func(c *cursor.Cursor) { c.Number(1) },
		func(c *cursor.Cursor) { c.Fail(api.ErrFull) },
		func(c *cursor.Cursor) { c.Fail(api.OK) },
		func(c *cursor.Cursor) { c.Good() },
	} {
		for _, c := range []*cursor.Cursor{nil, {}} {
			do(c)
			checkFault(t, c, 0, 0, api.ErrState)
		}
	}
}

// R1: a cursor of no tokens is one that New gave.
func TestOfNoTokens(t *testing.T) {
	for _, l := range [][]api.Token{nil, {}} {
		c := cursor.New(l)
		if c == nil {
			t.Fatal("New: nil")
		}
		checkGood(t, c, api.Token{Kind: api.TokEnd})
	}
}

// R3: what New was handed is not written to, also behind its end, and not kept; two cursors do not know of one another.
func TestHandedIn(t *testing.T) {
	back := append(reading.Tokens(t, "a 1 ; b"), tok(9, "spare", 9, 9), tok(9, "spare", 9, 9))
	was := slices.Clone(back)
	l := back[:5]
	c, other := cursor.New(l), cursor.New(l)
	c.Next()
	c.Is(api.TokName, "a")
	c.Name()
	c.Number(1)
	c.Want(api.TokMark, ";")
	c.Take(api.TokName, "b")
	for range 4 {
		c.Want(api.TokEnd, "")
	}
	c.Fail(api.ErrFull)
	c.Fault()
	if !slices.Equal(back, was) {
		t.Errorf("what was handed in is now %v", back)
	}
	checkGood(t, other, was[0])
	for i := range back {
		back[i] = tok(9, "other", 9, 9)
	}
	for _, want := range was[:5] {
		checkGood(t, other, want)
		other.Want(want.Kind, want.Text)
	}
	checkGood(t, other, tok(api.TokEnd, "", 1, 8))
}

// Cr1: as many tokens as a text may have, and more.
func TestManyTokens(t *testing.T) {
	l := reading.Tokens(t, strings.Repeat("a\n", api.MaxTokens))
	for len(l) < 1<<17 {
		l = append(l, l...)
	}
	c, n := cursor.New(l), 0
	for n < len(l) && c.Take(l[n].Kind, l[n].Text) {
		n++
	}
	if n != len(l) {
		t.Errorf("Take: false at token %d", n)
	}
	checkGood(t, c, tok(api.TokEnd, "", api.MaxTokens+1, 1))
}

// call is one of a cursor's calls, and what it is handed.
type call struct {
	do   string
	kind int
	text string
	n    int
}

// answer is what a call tells, each in its place.
type answer struct {
	next api.Token
	is   bool
	said string
	n    int
}

// ask makes a call.
func ask(c *cursor.Cursor, k call) (a answer) {
	switch k.do {
	case "next":
		a.next = c.Next()
	case "is":
		a.is = c.Is(k.kind, k.text)
	case "take":
		a.is = c.Take(k.kind, k.text)
	case "want":
		c.Want(k.kind, k.text)
	case "name":
		a.said = c.Name()
	case "number":
		a.n = c.Number(k.n)
	case "fail":
		c.Fail(api.Errno(k.n))
	}
	return a
}

// another is a cursor by the document's words in another way: a list that is never cut, and how many of it are gone past.
type another struct {
	l    []api.Token
	past int
	at   api.Pos
	e    api.Errno
}

// next is the next token, no fault being there.
func (m *another) next() api.Token {
	if m.past < len(m.l) {
		return m.l[m.past]
	}
	if len(m.l) == 0 {
		return api.Token{}
	}
	return api.Token{Kind: api.TokEnd, At: m.l[len(m.l)-1].At}
}

// ask makes a call.
func (m *another) ask(k call) (a answer) {
	if m.e != api.OK {
		return a
	}
	t, e, on := m.next(), api.OK, false
	same := t.Kind == k.kind && t.Text == k.text
	switch k.do {
	case "next":
		a.next = t
	case "is":
		a.is = same
	case "take":
		a.is, on = same, same
	case "want":
		if on = same; !on {
			e = api.ErrText
		}
	case "name":
		if on = t.Kind == api.TokName && names.Is(t.Text); on {
			a.said = t.Text
		} else {
			e = api.ErrText
		}
	case "number":
		if n, got := val.Get(t.Text); t.Kind != api.TokNum {
			e = api.ErrText
		} else if got != api.OK {
			e = got
		} else if n > k.n {
			e = api.ErrRange
		} else {
			a.n, on = n, true
		}
	case "fail":
		e = api.Errno(k.n)
	}
	if e != api.OK {
		m.at, m.e = t.At, e
	} else if on {
		m.past++
	}
	return a
}

// calls are those that are made one behind the other.
func calls() []call {
	return []call{
		{do: "next"},
		{do: "is", kind: api.TokName, text: "a"},
		{do: "take", kind: api.TokName, text: "a"}, {do: "take", kind: api.TokNum, text: "1"}, {do: "take", kind: api.TokEnd}, {do: "take", kind: api.TokMark, text: ";"},
		{do: "want", kind: api.TokName, text: "or"}, {do: "want", kind: api.TokEnd}, {do: "want", kind: api.TokMark, text: ";"},
		{do: "name"},
		{do: "number", n: 1}, {do: "number", n: 0}, {do: "number", n: -1},
		{do: "fail", n: int(api.ErrFull)}, {do: "fail", n: int(api.OK)},
	}
}

// Cr1, Cr2, Cr3: all calls, up to four behind one another, at some lists of tokens, against the other cursor.
func TestAllCalls(t *testing.T) {
	a, one, or := tok(api.TokName, "a", 1, 2), tok(api.TokNum, "1", 2, 3), tok(api.TokName, "or", 3, 4)
	mark, end, zeros := tok(api.TokMark, ";", 4, 5), tok(api.TokEnd, "", 5, 6), tok(api.TokNum, "00", 6, 7)
	for _, l := range [][]api.Token{
		nil, {end}, {a}, {a, one, end}, {one, mark, a, one}, {a, end, one}, {end, end, mark, or}, {or, a, a, end}, {mark, zeros}, {one, tok(8, "a", 7, 8), a},
	} {
		var made []call
		var more func()
		more = func() {
			for _, k := range calls() {
				made = append(made, k)
				checkCalls(t, l, made)
				if len(made) < 4 && !t.Failed() {
					more()
				}
				made = made[:len(made)-1]
			}
		}
		more()
	}
}

// checkCalls makes calls one behind the other, of a cursor and of the other one, and holds the last one's answers, and what is told behind it, against each other.
func checkCalls(t *testing.T, l []api.Token, made []call) {
	t.Helper()
	c, m := cursor.New(l), &another{l: l}
	var got, want answer
	for _, k := range made {
		got, want = ask(c, k), m.ask(k)
	}
	at, e := c.Fault()
	next, wantNext := c.Next(), m.ask(call{do: "next"}).next
	if got != want || at != m.at || e != m.e || c.Good() != (m.e == api.OK) || next != wantNext {
		t.Fatalf("%v at %v: %v, fault %d at %v, then %v; not %v, fault %d at %v, then %v", made, l, got, e, at, next, want, m.e, m.at, wantNext)
	}
}
