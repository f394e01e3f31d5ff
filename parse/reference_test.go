package parse_test

import (
	"math/rand"
	"slices"
	"strings"
	"testing"

	"quadrille/a1"
	"quadrille/api"
	"quadrille/dec"
	"quadrille/parse"
	"quadrille/token"
	"quadrille/tree"
)

// What the judge awaits next.
const (
	anOperand = iota
	anArgument
	afterCell
	afterOperand
	lastCell
)

// judge finds the first token that cannot continue a formula: it goes through the tokens once, with a list of the parentheses that are open (0: of no call; otherwise the number of the argument).
type judge struct {
	awaits int
	open   []int
}

// verdict returns the error of a formula of at most 256 bytes, but for its depth.
func verdict(s string) api.Errno {
	tokens, _, e := token.Split(s)
	if e != api.OK {
		return e
	}
	var j judge
	// The end counts as a token.
	tokens = append(tokens, token.Token{})
	for i, k := range tokens {
		call := i+1 < len(tokens) && tokens[i+1].Kind == token.Sign && tokens[i+1].Text == "("
		called := i > 0 && tokens[i-1].Kind == token.Name
		if e := j.token(k, call, called); e != api.OK {
			return e
		}
	}
	return api.OK
}

// token passes over a token, with or without a parenthesis behind it, and with or without a name before it.
func (j *judge) token(k token.Token, call, called bool) api.Errno {
	beginning := j.awaits == anOperand || j.awaits == anArgument
	_, cell := a1.Parse(k.Text)
	_, fine := dec.Parse(k.Text)
	switch {
	case beginning && k.Kind == token.Number:
		j.awaits = afterOperand
		if !fine {
			return api.ErrNum
		}
	case beginning && (k.Kind == token.Text || k.Kind == token.Fault):
		j.awaits = afterOperand
	case beginning && k.Kind == token.Name && call:
		if len(k.Text) > 32 {
			return api.ErrParse
		}
	case beginning && k.Kind == token.Name:
		j.awaits = afterCell
		return cell
	case j.awaits == lastCell && k.Kind == token.Name:
		j.awaits = afterOperand
		return cell
	case k.Kind == token.Sign && j.awaits != lastCell:
		return j.sign(k.Text, called)
	case k.Kind == 0 && !beginning && j.awaits != lastCell && len(j.open) == 0:
		return api.OK
	default:
		return api.ErrParse
	}
	return api.OK
}

// sign passes over a sign.
func (j *judge) sign(s string, called bool) api.Errno {
	beginning := j.awaits == anOperand || j.awaits == anArgument
	last := len(j.open) - 1
	switch {
	case s == ":" && j.awaits == afterCell:
		j.awaits = lastCell
	case s == "-" && beginning:
		j.awaits = anOperand
	case s == "(" && beginning && called:
		j.awaits = anArgument
		j.open = append(j.open, 1)
	case s == "(" && beginning:
		j.awaits = anOperand
		j.open = append(j.open, 0)
	case s == ")" && last >= 0 && j.awaits != anOperand:
		j.awaits = afterOperand
		j.open = j.open[:last]
	case s == "," && !beginning && last >= 0 && j.open[last] > 0 && j.open[last] < 16:
		j.awaits = anOperand
		j.open[last]++
	case strings.Contains(" = <> < <= > >= & + - * / ", " "+s+" ") && !beginning:
		j.awaits = anOperand
	default:
		return api.ErrParse
	}
	return api.OK
}

// grow returns the tree of the tokens of a formula that has no fault: it divides them at the last operator of the lowest level.
func grow(l []token.Token) parse.Node {
	for _, signs := range operators() {
		within := 0
		for i := len(l) - 1; i > 0; i-- {
			within += depth(l[i])
			if within == 0 && l[i].Kind == token.Sign && slices.Contains(signs, l[i].Text) && (l[i-1].Kind != token.Sign || l[i-1].Text == ")") {
				return binary(l[i].Text, grow(l[:i]), grow(l[i+1:]))
			}
		}
	}
	first, last := l[0].Text, l[len(l)-1].Text
	switch {
	case l[0].Kind == token.Text:
		return text(first)
	case l[0].Kind == token.Fault:
		return fault()
	case l[0].Kind == token.Number:
		d, _ := dec.Parse(first)
		return number(d)
	case first == "-":
		return minus(grow(l[1:]))
	case first == "(":
		return grow(l[1 : len(l)-1])
	case last == ")":
		return call(first, arguments(l[2:len(l)-1])...)
	}
	from, _ := a1.Parse(first)
	to, _ := a1.Parse(last)
	if len(l) == 1 {
		return ref(from.Col, from.Row)
	}
	return span(ref(from.Col, from.Row), ref(to.Col, to.Row))
}

// depth returns 1 for a closing parenthesis and -1 for an opening one.
func depth(k token.Token) int {
	switch {
	case k.Kind == token.Sign && k.Text == ")":
		return 1
	case k.Kind == token.Sign && k.Text == "(":
		return -1
	}
	return 0
}

// arguments returns the trees of what stands between commas.
func arguments(l []token.Token) []parse.Node {
	var all []parse.Node
	from, within := 0, 0
	for i, k := range l {
		within += depth(k)
		if within == 0 && k.Kind == token.Sign && k.Text == "," {
			all = append(all, grow(l[from:i]))
			from = i + 1
		}
	}
	if len(l) == 0 {
		return nil
	}
	return append(all, grow(l[from:]))
}

// deep returns how many levels a tree has.
func deep(n parse.Node) int {
	most := 0
	for _, arg := range n.Args {
		most = max(most, deep(arg))
	}
	return most + 1
}

// expected returns the tree and the error that a string has.
func expected(s string) (parse.Node, api.Errno) {
	if len(s) > 256 {
		return parse.Node{}, api.ErrLong
	}
	if e := verdict(s); e != api.OK {
		return parse.Node{}, e
	}
	tokens, _, _ := token.Split(s)
	n := grow(tokens)
	if deep(n) > 64 {
		return parse.Node{}, api.ErrDepth
	}
	return n, api.OK
}

// agrees demands that Formula answers what is expected, and that a tree is valid and is read back from its Text (P10.3). It reports whether there is a tree.
func agrees(t *testing.T, s string) bool {
	t.Helper()
	want, wantE := expected(s)
	got, e := parse.Formula(s)
	if e != wantE || !tree.Same(got, want) {
		t.Fatalf("Formula(%q) = %+v, %d; want %+v, %d", s, got, e, want, wantE)
	}
	if e != api.OK {
		return false
	}
	if !tree.Right(got) {
		t.Fatalf("Formula(%q) = %+v, which is not valid", s, got)
	}
	back(t, got)
	return true
}

// back demands that a tree is read back from its Text, if that is no longer than it may be (P10.3). It reports whether it is.
func back(t *testing.T, n parse.Node) bool {
	t.Helper()
	s := parse.Text(n)
	got, e := parse.Formula(s)
	if len(s) > 256 {
		if e != api.ErrLong || !tree.Same(got, parse.Node{}) {
			t.Fatalf("Formula(%q) = %+v, %d", s, got, e)
		}
		return false
	}
	if e != api.OK || !tree.Same(got, n) {
		t.Fatalf("the Text %q of %+v is read as %+v, %d", s, n, got, e)
	}
	return true
}

// pieces counts through all strings of so many pieces, with a blank between any two.
func pieces(t *testing.T, count int, all ...string) (strings, fine int) {
	t.Helper()
	var add func(s string, left int)
	add = func(s string, left int) {
		strings++
		if agrees(t, s) {
			fine++
		}
		if left == 0 {
			return
		}
		for _, piece := range all {
			add(s+" "+piece, left-1)
		}
	}
	add("", count)
	return strings, fine
}

// P10.1, P10.3: all strings of at most five pieces of each kind.
func TestPieces(t *testing.T) {
	all, fine := pieces(t, 5, "1", "0.0000001", `"A1"`, "A1", "A", "#REF!", "-", "=", "*", "(", ")", ",", ":")
	if all < 400000 || fine < 1000 {
		t.Error(all, "strings, of which", fine, "are formulas")
	}
}

// P10.1, P10.3: longer strings of fewer pieces.
func TestMorePieces(t *testing.T) {
	for _, c := range []struct {
		count int
		all   []string
	}{
		{6, []string{"A1", "-", "&", "(", ")", ","}},
		{6, []string{"A1", ":", "A", "(", ")", "*"}},
		{7, []string{"1", "-", "<=", "(", ")"}},
		{5, []string{"F1", "(", ")", ",", `"("`, `")"`, `","`, `"-"`, `":"`, `"&"`}},
		{7, []string{"F", "(", ")", ",", "1"}},
		{8, []string{"1", "-", "/", "+"}},
		{7, []string{"B2", "=", "<>", "&"}},
		{10, []string{"F(", ")", "-"}},
		{6, []string{"A", "B1", "(", strings.Repeat("F", 33), "99999999999999", ")"}},
	} {
		if all, fine := pieces(t, c.count, c.all...); fine < 10 {
			t.Error(all, "strings of", c.all, "of which", fine, "are formulas")
		}
	}
}

// P10.1: every string of at most two bytes, alone and within a formula.
func TestBytes(t *testing.T) {
	for a := range 256 {
		first := string([]byte{byte(a)})
		for _, s := range []string{"", "1", "A", "A1", "A1:", "(", `"`, "-", "<"} {
			for _, behind := range []string{"", "1", "A1", ")", `"`} {
				agrees(t, s+first+behind)
			}
		}
		for b := range 256 {
			agrees(t, first+string([]byte{byte(b)}))
		}
	}
}

// P10.1, P10.3: long strings of pieces that mostly fit, with a fault here and there.
func TestManyPieces(t *testing.T) {
	r := rand.New(rand.NewSource(10))
	operands := []string{"1", "0.5", "A1", "ZZ9999", "A1:B2", `"(,"`, "#REF!", "F()", "(1)", "-2", "G(1,A1)", "--A1"}
	operators := []string{"+", "-", "*", "/", "&", "=", "<>", "<", "<=", ">", ">=", ",", " + "}
	others := []string{"(", ")", ",", ":", "A", "99999999999999", "F(", "$", "A1:A", " ", strings.Repeat("F", 33) + "("}
	fine := 0
	for range 30000 {
		var s strings.Builder
		open := 0
		for range r.Intn(60) {
			for range r.Intn(3) {
				s.WriteString([]string{"(", "F(", "-", "-("}[r.Intn(4)])
				open++
			}
			s.WriteString(operands[r.Intn(len(operands))])
			for open > 0 && r.Intn(2) == 0 {
				s.WriteString(")")
				open--
			}
			if r.Intn(60) == 0 {
				s.WriteString(others[r.Intn(len(others))])
			}
			s.WriteString(operators[r.Intn(len(operators)-1-min(1, r.Intn(10)))])
		}
		s.WriteString("A1" + strings.Repeat(")", open))
		if agrees(t, s.String()) {
			fine++
		}
	}
	if fine < 500 {
		t.Error("only", fine, "formulas")
	}
}

// P10.1: what is left of a formula, and of one byte changed, is judged rightly, too.
func TestCutAndChanged(t *testing.T) {
	for _, s := range []string{
		`IF(A1<=2.5,"none ""at"" all",-B1:C2)&#REF!`, "F(1,2,3,4,5,6,7,8,9,10,11,12,13,14,15,16)", "1-(2-3)-4*-(5+A10)/B2", "((A1=B1)=(C1<>D1))<>-(1>=2)", strings.Repeat("-", 63) + "1", "F(G(H(),A1:A2),,)+99999999999999",
	} {
		for i := range len(s) {
			agrees(t, s[:i])
			agrees(t, s[i:])
			agrees(t, s[:i]+s[i+1:])
			for _, c := range ` "#()*,-.019:<=AFZa` + "\x00\xff" {
				agrees(t, s[:i]+string(c)+s[i+1:])
				agrees(t, s[:i]+string(c)+s[i:])
			}
		}
	}
}

// shapes returns trees of all shapes of at most so many levels, with operators of each level.
func shapes(levels int) []parse.Node {
	if levels == 1 {
		return []parse.Node{ref(1, 1), number(1500000), text(`(")`), span(ref(702, 9999), ref(2, 2)), fault(), call("F")}
	}
	below := shapes(levels - 1)
	l := below[:3:3]
	for _, a := range below {
		l = append(l, minus(a), call("A1", a))
		for _, b := range below {
			l = append(l, call("G", a, b))
			for _, signs := range operators() {
				l = append(l, binary(signs[len(signs)-1], a, b))
			}
		}
	}
	return l
}

// P10.3: trees that no formula was read for.
func TestShapes(t *testing.T) {
	all := shapes(2)
	count := 0
	for _, a := range all {
		count++
		back(t, minus(a))
		for _, b := range all {
			back(t, call("G", a, b))
			for _, signs := range operators() {
				for _, sign := range signs {
					count++
					if !back(t, binary(sign, a, b)) {
						t.Fatalf("%+v %s %+v is too long", a, sign, b)
					}
				}
			}
		}
	}
	if count < 100000 {
		t.Error("only", count, "trees")
	}
}

// anyNode returns a valid tree of at most so many levels.
func anyNode(r *rand.Rand, levels int) parse.Node {
	cell := func() parse.Node { return ref(r.Intn(702)+1, r.Intn(9999)+1) }
	if levels == 1 {
		switch r.Intn(6) {
		case 0:
			return number(dec.Dec(r.Int63n(int64(dec.Greatest) >> r.Intn(50))))
		case 1:
			return text(`a"(,`[:r.Intn(5)])
		case 2:
			return span(cell(), cell())
		case 3:
			return fault()
		}
		return cell()
	}
	switch r.Intn(8) {
	case 0, 1, 2:
		return minus(anyNode(r, levels-1))
	case 3:
		n := call("F", anyNode(r, levels-1))
		for range r.Intn(16) {
			n.Args = append(n.Args, anyNode(r, 1))
		}
		return n
	}
	signs := operators()[r.Intn(4)]
	a, b := anyNode(r, 1+r.Intn(min(levels-1, 3))), anyNode(r, levels-1)
	if r.Intn(2) == 0 {
		a, b = b, a
	}
	return binary(signs[r.Intn(len(signs))], a, b)
}

// P10.3: greater trees, also those whose Text is too long.
func TestTrees(t *testing.T) {
	r := rand.New(rand.NewSource(103))
	fits, deepest := 0, 0
	for i := range 20000 {
		n := anyNode(r, i%64+1)
		if !tree.Right(n) {
			t.Fatalf("%+v is not valid", n)
		}
		if back(t, n) {
			fits++
			deepest = max(deepest, deep(n))
		}
	}
	if fits < 3000 || fits > 19900 || deepest < 30 {
		t.Error(fits, "texts are short enough, with up to", deepest, "levels")
	}
}

// P10.3: trees at the limits.
func TestLimits(t *testing.T) {
	n := number(dec.Greatest)
	for range 63 {
		n = minus(n)
	}
	long := call(strings.Repeat("Z", 32), several(16, binary(">=", ref(1, 1), ref(702, 9999)))...)
	for _, n := range []parse.Node{n, long, number(0), number(1), text(""), text(strings.Repeat("a", 254)), text(strings.Repeat(`"`, 127))} {
		if !back(t, n) {
			t.Errorf("the Text of %+v is too long", n)
		}
	}
	if back(t, text(strings.Repeat("a", 255))) || back(t, text(strings.Repeat(`"`, 127)+"a")) {
		t.Error("257 bytes are read")
	}
	for col := 1; col <= 702; col++ {
		for _, row := range []int{1, 9, 10, 99, 100, 999, 1000, 9999} {
			back(t, ref(col, row))
			back(t, span(ref(col, row), ref(703-col, 10000-row)))
		}
	}
}
