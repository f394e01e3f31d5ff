package tree_test

import (
	"strings"
	"testing"

	"quadrille/api"
	"quadrille/dec"
	"quadrille/token"
	"quadrille/tree"
)

// formula reads formulas back, in the way in which the chapter of the parser describes it.
type formula struct {
	tokens []token.Token
	fine   bool
}

// read returns the tree of a formula; false: it is none.
func read(s string) (node, bool) {
	tokens, _, e := token.Split(s)
	f := formula{tokens: tokens, fine: e == api.OK}
	n := f.level(1)
	return n, f.fine && len(f.tokens) == 0
}

// at reports whether the next token is this sign.
func (f *formula) at(sign string) bool {
	return len(f.tokens) > 0 && f.tokens[0].Kind == token.Sign && f.tokens[0].Text == sign
}

// need passes over a sign that must be there.
func (f *formula) need(sign string) {
	if !f.at(sign) {
		f.fine = false
		return
	}
	f.tokens = f.tokens[1:]
}

// level reads an expression of a level.
func (f *formula) level(level int) node {
	if level > tree.Levels {
		return f.operand()
	}
	n := f.level(level + 1)
	for f.fine && len(f.tokens) > 0 && f.tokens[0].Kind == token.Sign && tree.Level(f.tokens[0].Text) == level {
		sign := f.tokens[0].Text
		f.tokens = f.tokens[1:]
		n = binary(sign, n, f.level(level+1))
	}
	return n
}

// operand reads what stands between operators.
func (f *formula) operand() node {
	if !f.fine || len(f.tokens) == 0 {
		f.fine = false
		return node{}
	}
	k := f.tokens[0]
	f.tokens = f.tokens[1:]
	switch {
	case k.Kind == token.Number:
		d, ok := dec.Parse(k.Text)
		f.fine = f.fine && ok
		return number(d)
	case k.Kind == token.Text:
		return text(k.Text)
	case k.Kind == token.Fault:
		return fault()
	case k.Kind == token.Name:
		return f.named(k.Text)
	case k.Text == "-":
		return minus(f.operand())
	case k.Text == "(":
		n := f.level(1)
		f.need(")")
		return n
	}
	f.fine = false
	return node{}
}

// named reads what begins with a name.
func (f *formula) named(name string) node {
	if f.at(":") {
		f.need(":")
		if len(f.tokens) == 0 {
			f.fine = false
			return node{}
		}
		to := f.tokens[0].Text
		f.tokens = f.tokens[1:]
		return span(name, to)
	}
	if !f.at("(") {
		return ref(name)
	}
	f.need("(")
	n := call(name)
	for f.fine && !f.at(")") {
		if len(n.Args) > 0 {
			f.need(",")
		}
		n.Args = append(n.Args, f.level(1))
	}
	f.need(")")
	return n
}

// shapes returns trees of all shapes of at most so many levels, with an operator of each level.
func shapes(levels int) []node {
	l := []node{ref("A1"), number(1500000)}
	if levels == 1 {
		return append(l, text(`(")`), span("A1", "B2"), fault(), call("F"))
	}
	below := shapes(levels - 1)
	for _, a := range below {
		l = append(l, minus(a), call("F", a))
		for _, b := range below {
			l = append(l, call("G", a, b))
			for _, signs := range operators() {
				l = append(l, binary(signs[len(signs)-1], a, b))
			}
		}
	}
	return l
}

// P9.4: what is printed is read as the same tree, and as another one (or none) if any parentheses are left out that are not those of a Call.
func TestPrintIsReadBack(t *testing.T) {
	all := shapes(3)
	if len(all) < 10000 {
		t.Fatal("only", len(all), "shapes")
	}
	for _, n := range all {
		s := tree.Print(n, self)
		if got, ok := read(s); !ok || !tree.Same(got, n) {
			t.Fatalf("%+v: Print = %q, which is %+v", n, s, got)
		}
		if strings.Contains(s, `"`) {
			continue
		}
		for i := range len(s) {
			if s[i] != '(' || i > 0 && (s[i-1] == 'F' || s[i-1] == 'G') {
				continue
			}
			j := i + partner(s[i:])
			if got, ok := read(s[:i] + s[i+1:j] + s[j+1:]); ok && tree.Same(got, n) {
				t.Fatalf("Print = %q; the parentheses at %d are not needed", s, i)
			}
		}
	}
}

// partner returns where the parenthesis is closed with which s begins.
func partner(s string) int {
	within := 0
	for i := range len(s) {
		switch s[i] {
		case '(':
			within++
		case ')':
			within--
		}
		if within == 0 {
			return i
		}
	}
	return len(s) - 1
}
