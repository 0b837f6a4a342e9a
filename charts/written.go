package charts

import (
	"strconv"
	"strings"

	"semblance/api"
	"semblance/expr"
	"semblance/term"
)

// Style is what a chart is written with where the grammar leaves it open: braces where nothing is within, brackets around all expressions.
type Style struct {
	Braces   bool
	Brackets bool
}

// Styles are all of them.
func Styles() []Style {
	return []Style{{}, {Braces: true}, {Brackets: true}, {Braces: true, Brackets: true}}
}

// Written is a chart's text in a style, by the grammar, with blanks between its pieces; it may be longer than a text may be.
func Written(c api.Chart, style Style) string {
	s := "chart " + c.Name + " { "
	if len(c.Events) > 0 {
		s += "event " + strings.Join(c.Events, " , ") + " ; "
	}
	for _, v := range c.Vars {
		s += "var " + v.Name + " " + strconv.Itoa(v.Lo) + " .. " + strconv.Itoa(v.Hi) + " = " + strconv.Itoa(v.Init) + " ; "
	}
	for at, one := range c.States {
		if one.Parent == -1 {
			s += style.state(c.States, at)
		}
	}
	return s + "}"
}

// state is the text of the state at a place, and of those within it.
func (style Style) state(l []api.State, at int) string {
	one := l[at]
	s := []string{1: "leaf ", 2: "or ", 3: "and "}[one.Kind] + one.Name
	within := style.acts("enter ", one.Enter, "; ") + style.acts("exit ", one.Exit, "; ")
	for _, t := range one.Trans {
		within += style.trans(t)
	}
	for below, other := range l {
		if other.Parent == at {
			within += style.state(l, below)
		}
	}
	if within == "" && !style.Braces {
		return s + " ; "
	}
	return s + " { " + within + "} "
}

// trans is a transition's text.
func (style Style) trans(t api.Trans) string {
	s := "auto "
	if t.Event != "" {
		s = "on " + t.Event + " "
	}
	if len(t.Guard) > 0 {
		s += "[ " + style.expr(t.Guard) + " ] "
	}
	s += style.acts("/ ", t.Acts, "")
	if t.Target != "" {
		s += "-> " + t.Target + " "
	}
	return s + "; "
}

// acts is acts' text, if there are some, with what stands ahead and behind.
func (style Style) acts(ahead string, l []api.Act, behind string) string {
	var pieces []string
	for _, a := range l {
		piece := "any " + a.Name
		if !a.Any {
			piece = a.Name + " := " + style.expr(a.Expr)
		}
		pieces = append(pieces, piece)
	}
	if len(pieces) == 0 {
		return ""
	}
	return ahead + strings.Join(pieces, " , ") + " " + behind
}

// expr is an expression's text.
func (style Style) expr(l []api.Term) string {
	if style.Brackets {
		return bracketed(l)
	}
	s, _ := expr.Put(l)
	return s
}

// bracketed is an expression's text, in brackets, and so are all below it.
func bracketed(l []api.Term) string {
	var below [2]string
	for which, at := range term.Below(l, 0) {
		below[which] = bracketed(l[at:term.End(l, at)])
	}
	return "( " + piece(l[0], below[0], below[1]) + " )"
}

// piece is the text of a term, and of what is below it.
func piece(one api.Term, left, right string) string {
	switch one.Op {
	case api.TmNum:
		return strconv.Itoa(one.N)
	case api.TmVar:
		return one.Name
	case api.TmNeg:
		return "- " + left
	case api.TmMin:
		return "min ( " + left + " , " + right + " )"
	case api.TmMax:
		return "max ( " + left + " , " + right + " )"
	case api.TmTrue:
		return "true"
	case api.TmFalse:
		return "false"
	case api.TmIn:
		return "in ( " + one.Name + " )"
	case api.TmNot:
		return "not " + left
	}
	return left + " " + sign(one.Op) + " " + right
}

// sign is what stands between the two below a term.
func sign(op int) string {
	return []string{
		api.TmAdd: "+", api.TmSub: "-", api.TmMul: "*",
		api.TmEq: "==", api.TmNe: "!=", api.TmLt: "<", api.TmLe: "<=", api.TmGt: ">", api.TmGe: ">=",
		api.TmAnd: "and", api.TmOr: "or",
	}[op]
}
