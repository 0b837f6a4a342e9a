package syntax_test

import (
	"math"
	"slices"
	"strconv"
	"strings"
	"testing"

	"semblance/act"
	"semblance/api"
	"semblance/cursor"
	"semblance/reading"
	"semblance/syntax"
	"semblance/trans"
)

// grammar is the chapter's; that no STATE stands within a leaf is told by two lines of it.
const grammar = `
CHART = "chart" NAME "{" [ "event" EVENT { "," EVENT } ";" ] { "var" NAME INT ".." INT "=" INT ";" } STATE "}"
INT   = [ "-" ] NUM
STATE = LEAF | ( "or" | "and" ) NAME ( ";" | "{" OWN { STATE } "}" )
LEAF  = "leaf" NAME ( ";" | "{" OWN "}" )
OWN   = [ "enter" ACTS ";" ] [ "exit" ACTS ";" ] { TRANS }
`

// piece is a piece of the grammar: a word or a mark that stands there (text), a name of the grammar's, or what stands in brackets: several ways, each pieces one behind the other.
type piece struct {
	kind byte
	text string
	ways [][]piece
}

// pieces are those of the grammar's words as far as a bracket that is not open there, and the words behind.
func pieces(words []string) ([][]piece, []string) {
	ways := [][]piece{nil}
	for len(words) > 0 {
		word := words[0]
		words = words[1:]
		var one piece
		switch word {
		case "]", "}", ")":
			return ways, words
		case "|":
			ways = append(ways, nil)
			continue
		case "[", "{", "(":
			one.kind = word[0]
			one.ways, words = pieces(words)
		default:
			one = piece{kind: 'a', text: word}
			if word[0] == '"' {
				one = piece{kind: '"', text: strings.Trim(word, `"`)}
			}
		}
		ways[len(ways)-1] = append(ways[len(ways)-1], one)
	}
	return ways, nil
}

// lines are the grammar's, by the names that they are of.
func lines() map[string][][]piece {
	all := map[string][][]piece{}
	for line := range strings.Lines(grammar) {
		if name, is, found := strings.Cut(line, "="); found {
			all[strings.TrimSpace(name)], _ = pieces(strings.Fields(is))
		}
	}
	return all
}

// walk goes along the grammar and through tokens, behind which an end stands; what it reads it puts where the braces say.
type walk struct {
	lines map[string][][]piece
	l     []api.Token
	at    int
	e     api.Errno
	chart api.Chart
	word  string
	ints  []int
	// braces are those that are open: the place of the state that each one is of; -1 of the chart's.
	braces []int
}

// fail tells the first fault, at the token that is next.
func (w *walk) fail(e api.Errno) {
	if w.e == api.OK {
		w.e = e
	}
}

// next is the next token.
func (w *walk) next() api.Token { return w.l[w.at] }

// begins tells whether one of the ways begins with the next token; of a list that may be empty just what is in it is asked.
func (w *walk) begins(ways [][]piece) bool {
	return slices.ContainsFunc(ways, func(way []piece) bool { return w.may(way[0]) })
}

// may tells whether a piece begins with the next token.
func (w *walk) may(p piece) bool {
	one := w.next()
	switch {
	case p.kind == '"':
		return one.Text == p.text && one.Kind == kindOf(p.text)
	case p.kind != 'a':
		return w.begins(p.ways)
	case p.text == "TRANS":
		return one.Kind == api.TokName && (one.Text == "on" || one.Text == "auto")
	}
	return w.begins(w.lines[p.text])
}

// kindOf is the kind of the token that a word or a mark of the grammar is.
func kindOf(text string) int {
	if text[0] >= 'a' && text[0] <= 'z' {
		return api.TokName
	}
	return api.TokMark
}

// follow goes along the one of the ways that begins with the next token; the only one is asked for.
func (w *walk) follow(ways [][]piece) {
	for _, way := range ways {
		if len(ways) == 1 || w.may(way[0]) {
			for _, p := range way {
				w.along(p)
			}
			return
		}
	}
	w.fail(api.ErrText)
}

// along goes along a piece.
func (w *walk) along(p piece) {
	switch {
	case w.e != api.OK:
	case p.kind == '"':
		w.pass(p)
	case p.kind == '[':
		if w.begins(p.ways) {
			w.follow(p.ways)
		}
	case p.kind == '{':
		for w.e == api.OK && w.begins(p.ways) {
			w.follow(p.ways)
		}
	case p.kind == '(':
		w.follow(p.ways)
	default:
		w.named(p.text)
	}
}

// pass goes past a word or a mark, that must be next.
func (w *walk) pass(p piece) {
	if !w.may(p) {
		w.fail(api.ErrText)
		return
	}
	last := len(w.braces) - 1
	switch p.text {
	case "var":
		if len(w.chart.Vars) == 4 {
			w.fail(api.ErrFull)
		}
		w.chart.Vars = append(w.chart.Vars, api.Var{})
	case "leaf", "or", "and":
		if len(w.chart.States) == 60 {
			w.fail(api.ErrFull)
		} else if len(w.braces) > 12 {
			w.fail(api.ErrDeep)
		}
		kind := 1 + slices.Index([]string{"leaf", "or", "and"}, p.text)
		w.chart.States = append(w.chart.States, api.State{Kind: kind, Parent: w.braces[last]})
	case "{":
		w.braces = append(w.braces, len(w.chart.States)-1)
	case "}":
		w.braces = w.braces[:last]
	}
	if kindOf(p.text) == api.TokName {
		w.word = p.text
	}
	if w.e == api.OK {
		w.at++
	}
}

// named goes along what the grammar has a name for.
func (w *walk) named(name string) {
	switch name {
	case "NAME", "EVENT":
		w.name(name)
	case "NUM":
		w.number()
	case "ACTS":
		w.acts()
	case "TRANS":
		w.trans()
	default:
		w.follow(w.lines[name])
	}
}

// isName tells whether a token is a name.
func isName(one api.Token) bool {
	s := one.Text
	if one.Kind != api.TokName || s == "" || len(s) > 12 || s[0] < 'a' || s[0] > 'z' || slices.Contains(strings.Fields(keywords), s) {
		return false
	}
	return strings.Trim(s, "abcdefghijklmnopqrstuvwxyz0123456789_") == ""
}

// name goes past a name, that must be next, and puts it where the last word says.
func (w *walk) name(name string) {
	one := w.next()
	if !isName(one) {
		w.fail(api.ErrText)
		return
	}
	if name == "EVENT" && len(w.chart.Events) == 8 {
		w.fail(api.ErrFull)
		return
	}
	w.at++
	switch w.word {
	case "chart":
		w.chart.Name = one.Text
	case "event":
		w.chart.Events = append(w.chart.Events, one.Text)
	case "var":
		w.chart.Vars[len(w.chart.Vars)-1].Name = one.Text
	default:
		w.chart.States[len(w.chart.States)-1].Name = one.Text
	}
}

// number goes past a number, that must be next.
func (w *walk) number() {
	one := w.next()
	digits := strings.Trim(one.Text, "0123456789") == "" && one.Text != ""
	if one.Kind != api.TokNum || !digits || len(one.Text) > 1 && one.Text[0] == '0' {
		w.fail(api.ErrText)
		return
	}
	n, err := strconv.Atoi(one.Text)
	if err != nil || n > 1000 {
		w.fail(api.ErrRange)
		return
	}
	// Ahead of a number stands at least what a variable begins with.
	if w.l[w.at-1].Text == "-" {
		n = -n
	}
	w.ints = append(w.ints, n)
	w.at++
}

// below goes past what a layer below reads, or takes its fault.
func (w *walk) below(read func(c *cursor.Cursor)) {
	c := cursor.New(w.l[w.at:])
	read(c)
	place := c.Next().At
	if at, e := c.Fault(); e != api.OK {
		w.fail(e)
		place = at
	}
	w.at = slices.IndexFunc(w.l, func(one api.Token) bool { return one.At == place })
}

// acts goes past acts, that must be next.
func (w *walk) acts() {
	s := &w.chart.States[w.braces[len(w.braces)-1]]
	w.below(func(c *cursor.Cursor) {
		if l := act.Read(c); w.word == "enter" {
			s.Enter = l
		} else {
			s.Exit = l
		}
	})
}

// trans goes past a transition, that is next.
func (w *walk) trans() {
	s := &w.chart.States[w.braces[len(w.braces)-1]]
	if len(s.Trans) == 16 {
		w.fail(api.ErrFull)
		return
	}
	w.below(func(c *cursor.Cursor) { s.Trans = append(s.Trans, trans.Read(c)) })
}

// outcome is what tokens are by another reading: the chart, and the place of the token behind it; else a fault, and the place of its token.
type outcome struct {
	chart api.Chart
	at    int
	e     api.Errno
}

// another reads a chart along the grammar; an end must stand behind the tokens, each of which has a place of its own.
func another(of map[string][][]piece, l []api.Token) outcome {
	w := walk{lines: of, l: l}
	w.named("CHART")
	if w.e != api.OK {
		return outcome{api.Chart{}, w.at, w.e}
	}
	for at := range w.chart.Vars {
		v := &w.chart.Vars[at]
		v.Lo, v.Hi, v.Init = w.ints[3*at], w.ints[3*at+1], w.ints[3*at+2]
	}
	return outcome{w.chart, w.at, api.OK}
}

// checkTokens: Read of tokens is what the other reading says; each of them is given a place of its own.
func checkTokens(t *testing.T, of map[string][][]piece, l []api.Token) outcome {
	t.Helper()
	l = reading.Placed(l)
	want := another(of, l)
	if want.e != api.OK {
		checkFault(t, l, l[want.at].At, want.e)
	} else {
		checkRead(t, l, want.chart, l[want.at])
	}
	return want
}

// checkTold: each error is told so many times at least: else what a test goes through is too little.
func checkTold(t *testing.T, told, least map[api.Errno]int) {
	t.Helper()
	for e, times := range least {
		if told[e] < times {
			t.Errorf("error %d is told just %d times", e, told[e])
		}
	}
}

// all are the words that stand in a chart, some of them as tokens of another kind.
const all = "chart c { } event var leaf or and enter exit on auto any ; , .. = - := 1 1001 !chart !c !{ !} !event !var !leaf !or !and !enter !exit !on !auto !any !; !.. !- !1 !"

// Sy1: Read of all small lists of tokens, against the other reading.
func TestAllSmallTokens(t *testing.T) {
	of, told := lines(), map[api.Errno]int{}
	reading.Every(3, reading.Words("chart c { } event var leaf or on auto ; , 1 - !chart !c !{"), func(l []api.Token) bool {
		told[checkTokens(t, of, l).e]++
		return true
	})
	tails := []string{"a ; } }", "; leaf a ; } }", "1 ; } }"}
	// Longer ones, as long as what is there may become a chart; and with something behind what may not.
	check := func(begin string, most int) {
		reading.Every(most, reading.Words(all), func(l []api.Token) bool {
			got := checkTokens(t, of, slices.Concat(reading.Words(begin), l))
			told[got.e]++
			if got.e != api.OK && got.at == len(reading.Words(begin))+len(l) {
				return true
			}
			for _, tail := range tails {
				checkTokens(t, of, slices.Concat(reading.Words(begin), l, reading.Words(tail)))
			}
			return false
		})
	}
	check("", 9)
	for _, c := range []struct {
		begin string
		most  int
	}{
		{"chart c { event a", 6}, {"chart c { event a , b ;", 5}, {"chart c { var a", 7}, {"chart c { var a - 1", 5}, {"chart c { var a 1 .. 1", 6}, {"chart c { var a 1 .. 1 = 1 ;", 5}, {"chart c { event a ; var a 1 .. 1 = 1 ;", 5},
		{"chart c { leaf a {", 5}, {"chart c { or a {", 5}, {"chart c { and a {", 5}, {"chart c { or a { leaf b", 5}, {"chart c { and a { or b {", 5}, {"chart c { or a { leaf b ;", 5}, {"chart c { or a { or b { leaf c ; }", 5}, {"chart c { or a { leaf b { auto ; }", 5},
		{"chart c { or a { enter any a ;", 5}, {"chart c { or a { exit any a ;", 5}, {"chart c { or a { auto ;", 5}, {"chart c { leaf a { enter any a ;", 5}, {"chart c { leaf a { exit any a ;", 5}, {"chart c { leaf a { on a ;", 5},
		{"chart c { leaf a ; }", 2}, {"chart c { or a ; }", 2}, {"chart c { or a { leaf b ; } }", 2},
	} {
		check(c.begin, c.most)
	}
	checkTold(t, told, map[api.Errno]int{api.OK: 50, api.ErrText: 10000, api.ErrRange: 20})
}

// ofMany is a text with so many of each: events, variables, transitions of one state, states beside it.
func ofMany(events, vars, transitions, states int) string {
	names := make([]string, events)
	for at := range names {
		names[at] = "e" + strconv.Itoa(at)
	}
	return "chart c { event " + strings.Join(names, " , ") + " ; " + strings.Repeat("var v - 1 .. 2 = 0 ; ", vars) +
		"or a { leaf b { " + strings.Repeat("auto -> a ; ", transitions) + "} " + strings.Repeat("leaf d ; ", states) + "} }"
}

// deepest is a text with states that stand so many within each other, and one beside the innermost one.
func deepest(many int) string {
	return "chart c { " + strings.Repeat("or a { ", many-1) + "leaf b ; leaf d ; " + strings.Repeat("} ", many-1) + "}"
}

// Sy1: one token is missing, doubled, changed with the next one, or another one, at each place of charts that may be; also of as much as may be, and of more.
func TestOneTokenOff(t *testing.T) {
	of, told := lines(), map[api.Errno]int{}
	check := func(l ...[]api.Token) { told[checkTokens(t, of, slices.Concat(l...)).e]++ }
	for _, s := range []string{
		"chart c { leaf a ; }", "chart c { or a { } }", "chart c { and a { leaf b ; leaf d { } } } }",
		"chart c { event a ; leaf b ; }", "chart c { event a , b , d ; var x 1 .. 2 = 1 ; leaf a ; } chart d",
		"chart c { var x - 5 .. - 1 = - 3 ; var y 0 .. 1000 = 999 ; or a { enter any x , y := 1 ; exit x := y + 1 ; on b [ x < 1 ] / any y -> a ; auto ; leaf d { enter x := - 1 ; auto -> a ; } and e { exit any x ; } } }",
		"chart c { event go ; or a { or b { and d { leaf e { on go ; } } on go ; } leaf e ; } leaf f ; }", "chart c { or a { or b { and d { leaf e { on go -> a ; on go ; } leaf f ; } or g ; } leaf h { } } }",
		ofMany(8, 4, 2, 2), ofMany(9, 1, 1, 1), ofMany(1, 5, 1, 1), ofMany(2, 1, 16, 1), ofMany(2, 0, 17, 1), deepest(11), deepest(12), deepest(13),
	} {
		whole := reading.Words(s)
		check(whole)
		for at := range whole {
			ahead, one, behind := whole[:at], whole[at:at+1], whole[at+1:]
			check(ahead)
			check(ahead, behind)
			check(ahead, one, one, behind)
			if len(behind) > 0 {
				check(ahead, behind[:1], one, behind[1:])
			}
			for _, other := range reading.Words(all + " [ ] -> x 1000 01 !,") {
				check(ahead, []api.Token{other}, behind)
				check(ahead, []api.Token{other}, one, behind)
			}
			for _, kind := range []int{api.TokEnd, api.TokName, api.TokNum, api.TokMark, 4, -1, math.MaxInt, math.MinInt} {
				check(ahead, []api.Token{{Kind: kind, Text: one[0].Text}}, behind)
			}
			for _, text := range []string{"", " ", "X", "a b", "abcdefghijkl", "abcdefghijklm", "-1", "99999999999999999999"} {
				check(ahead, []api.Token{{Kind: one[0].Kind, Text: text}}, behind)
			}
		}
	}
	checkTold(t, told, map[api.Errno]int{api.OK: 500, api.ErrText: 10000, api.ErrRange: 50, api.ErrDeep: 500, api.ErrFull: 500})
}

// Sy1: a state more, or a pair of braces, at each place of charts with states as many and as deep as may be: what is too many, and what is too deep.
func TestOneStateMore(t *testing.T) {
	of, told := lines(), map[api.Errno]int{}
	for _, states := range []int{2, 45, 46, 47, 48} {
		// 12 states down to the innermost one, one beside it, and the others around.
		words := reading.Words("chart c { " + strings.Repeat("or a { ", 11) + "leaf b { } leaf b ; " + strings.Repeat("} ", 10) + strings.Repeat("and d { } ", states) + "} }")
		told[checkTokens(t, of, words).e]++
		for at := range words {
			for _, more := range []string{"leaf x ;", "or x { }", "and x ; or y ;", "or x { and y ; }", "leaf x { } leaf y { }"} {
				told[checkTokens(t, of, slices.Concat(words[:at], reading.Words(more), words[at:])).e]++
			}
		}
	}
	checkTold(t, told, map[api.Errno]int{api.OK: 500, api.ErrText: 500, api.ErrDeep: 10, api.ErrFull: 500})
}

// Sy2: Parse of texts is what the other reading says, that must be all of them.
func TestParseAnother(t *testing.T) {
	of := lines()
	for _, s := range append(someTexts(t), "chart c { leaf a; } ;", "chart c { leaf a; } }", "chart c { leaf a; } chart d { leaf a; }", "chart c { leaf a; ", ";", "", "\n # chart c { leaf a; }") {
		l := reading.Tokens(t, s)
		for at := range l {
			part := s
			if at+1 < len(l) {
				part = scannedTo(s, l[at+1].At)
			}
			tokens := reading.Tokens(t, part)
			want := another(of, tokens)
			if end := tokens[len(tokens)-1]; want.e == api.OK && tokens[want.at] != end {
				want = outcome{api.Chart{}, want.at, api.ErrText}
			}
			place := api.Pos{}
			if want.e != api.OK {
				place = tokens[want.at].At
			}
			if got, at, e := syntax.Parse(part); !same(got, want.chart) || at != place || e != want.e {
				t.Errorf("Parse(%q): %v, %v, error %d, not %v, %v, error %d", part, got, at, e, want.chart, place, want.e)
			}
		}
	}
}

// scannedTo is a text as far as a place.
func scannedTo(s string, to api.Pos) string {
	size := 0
	for range to.Line - 1 {
		size += strings.Index(s[size:], "\n") + 1
	}
	return s[:size+to.Col-1]
}
