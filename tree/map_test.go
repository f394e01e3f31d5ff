package tree_test

import (
	"reflect"
	"slices"
	"strings"
	"testing"

	"quadrille/tree"
)

// sample is a tree with nodes of all kinds.
func sample() node {
	return binary("-", call("F", span("A1", "B2"), minus(ref("C3")), call("G"), fault()), binary("&", text("D4"), binary("*", ref("E5"), minus(minus(number(2500000))))))
}

// length turns a reference into its length, and not at all if it is marked with a !.
func length(s string) (int, bool) { return len(s), !strings.Contains(s, "!") }

// P9.3: references of each kind are turned, and the rest stays.
func TestMap(t *testing.T) {
	type over = tree.Node[int]
	for _, c := range []struct {
		n    node
		want over
	}{
		{ref("A1"), over{Kind: tree.Ref, From: 2}},
		{ref(""), over{Kind: tree.Ref}},
		{ref("A1!"), over{Kind: tree.Fault}},
		{span("A1", "B10"), over{Kind: tree.Range, From: 2, To: 3}},
		{span("A1!", "B10"), over{Kind: tree.Fault}},
		{span("A1", "B10!"), over{Kind: tree.Fault}},
		{span("A1!", "B10!"), over{Kind: tree.Fault}},
		{number(5), over{Kind: tree.Number, Num: 5}},
		{text("a!"), over{Kind: tree.Text, Text: "a!"}},
		{fault(), over{Kind: tree.Fault}},
		{call("F"), over{Kind: tree.Call, Text: "F"}},
		{minus(ref("A1")), over{Kind: tree.Minus, Args: []over{{Kind: tree.Ref, From: 2}}}},
		{minus(ref("A1!")), over{Kind: tree.Minus, Args: []over{{Kind: tree.Fault}}}},
		{binary("+", ref("A1!"), span("A1", "A2")), over{Kind: tree.Binary, Text: "+", Args: []over{{Kind: tree.Fault}, {Kind: tree.Range, From: 2, To: 2}}}},
		{call("F", number(1), ref("ABC1"), minus(ref("!"))), over{Kind: tree.Call, Text: "F", Args: []over{{Kind: tree.Number, Num: 1}, {Kind: tree.Ref, From: 4}, {Kind: tree.Minus, Args: []over{{Kind: tree.Fault}}}}}},
	} {
		if got := tree.Map(c.n, length); !reflect.DeepEqual(got, c.want) || !tree.Same(got, c.want) {
			t.Errorf("Map of %+v = %+v; want %+v", c.n, got, c.want)
		}
	}
}

// P9.3: what turn returns beside false is not in the tree.
func TestMapFaultIsEmpty(t *testing.T) {
	never := func(s string) (string, bool) { return "left", false }
	for _, n := range []node{ref("A1"), span("A1", "B2"), {Kind: tree.Ref, Num: 7, Text: "said", From: "A1", To: "B2"}, {Kind: tree.Range, Num: 7, Text: "said", From: "A1", To: "B2"}} {
		if got := tree.Map(n, never); !reflect.DeepEqual(got, fault()) {
			t.Errorf("Map of %+v = %+v; want a Fault", n, got)
		}
	}
	onlyTo := func(s string) (string, bool) { return "left", s == "B2" }
	if got := tree.Map(span("A1", "B2"), onlyTo); !reflect.DeepEqual(got, fault()) {
		t.Errorf("Map = %+v; want a Fault", got)
	}
}

// P9.3: Num and Text stay, also if the kind does not use them; no other kind has references that are turned.
func TestMapOtherFields(t *testing.T) {
	for kind := -1; kind < 12; kind++ {
		n := node{Kind: kind, Num: -7, Text: "said", From: "abc", To: "d", Args: []node{{Kind: kind, Num: 8, Text: "too"}}}
		want := tree.Node[int]{Kind: kind, Num: -7, Text: "said", Args: []tree.Node[int]{{Kind: kind, Num: 8, Text: "too"}}}
		if kind == tree.Ref || kind == tree.Range {
			want.From = 3
		}
		if kind == tree.Range {
			want.To = 1
		}
		if got := tree.Map(n, length); !tree.Same(got, want) {
			t.Errorf("Map of %+v = %+v; want %+v", n, got, want)
		}
	}
}

// P9.3: turn is called for each reference from left to right, for both of a Range, and for nothing else.
func TestMapOrder(t *testing.T) {
	for _, ok := range []bool{false, true} {
		var asked []string
		tree.Map(call("F", span("d", "c"), binary("+", minus(ref("b")), span("a", "a")), text("x"), fault(), call("G", ref("e"), ref("b"))), func(s string) (bool, bool) {
			asked = append(asked, s)
			return true, ok
		})
		if want := []string{"d", "c", "b", "a", "a", "e", "b"}; !slices.Equal(asked, want) {
			t.Errorf("asked %v; want %v", asked, want)
		}
	}
}

// P9.3: the tree that is mapped does not change, and shares no memory with the new one.
func TestMapIsNew(t *testing.T) {
	args := make([]node, 2, 5)
	args[0], args[1] = ref("A1"), minus(ref("B2"))
	n := node{Kind: tree.Call, Text: "F", Args: args}
	m := tree.Map(n, func(s string) (string, bool) { return s + "0", true })
	if want := call("F", ref("A1"), minus(ref("B2"))); !tree.Same(n, want) || !tree.Same(node{Kind: tree.Call, Text: "F", Args: args[:5]}, call("F", ref("A1"), minus(ref("B2")), node{}, node{}, node{})) {
		t.Errorf("after Map it is %+v", n)
	}
	m.Args[0].From = "changed"
	m.Args[1].Args[0].From = "changed"
	_ = append(m.Args, fault())
	if !tree.Same(n, call("F", ref("A1"), minus(ref("B2")))) {
		t.Errorf("after a change of what Map returned it is %+v", n)
	}
}

// P9.5: with all kinds, and with Args that are nil or empty.
func TestMapOfUnchanged(t *testing.T) {
	unchanged := func(s string) (string, bool) { return s, true }
	for _, n := range append(shapes(2), sample(), number(-3), node{}, node{Kind: 99, Text: "x", Num: 1}, minus(node{}), node{Kind: tree.Call, Text: "F", Args: []node{}}) {
		if got := tree.Map(n, unchanged); !tree.Same(got, n) {
			t.Errorf("Map = %+v; want %+v", got, n)
		}
	}
}

// P9.3
func TestLeaves(t *testing.T) {
	for _, c := range []struct {
		n    node
		want []node
	}{
		{ref("A1"), []node{ref("A1")}},
		{span("A1", "B2"), []node{span("A1", "B2")}},
		{fault(), []node{fault()}},
		{number(1), nil},
		{text("A1"), nil},
		{call("F"), nil},
		{minus(binary("+", number(1), text("a"))), nil},
		{node{}, nil},
		{minus(ref("A1")), []node{ref("A1")}},
		{binary("+", ref("B1"), ref("A1")), []node{ref("B1"), ref("A1")}},
		{binary("+", ref("A1"), ref("A1")), []node{ref("A1"), ref("A1")}},
		{sample(), []node{span("A1", "B2"), ref("C3"), fault(), ref("E5")}},
		{call("F", fault(), call("G", binary("=", ref("d"), ref("c")), ref("b")), span("a", "a"), fault()), []node{fault(), ref("d"), ref("c"), ref("b"), span("a", "a"), fault()}},
		{node{Kind: tree.Ref, Num: 7, Text: "x", From: "a", To: "b"}, []node{{Kind: tree.Ref, Num: 7, Text: "x", From: "a", To: "b"}}},
	} {
		leaves := tree.Leaves(c.n)
		for range 2 {
			if got := slices.Collect(leaves); !slices.EqualFunc(got, c.want, tree.Same[string]) {
				t.Errorf("Leaves of %+v = %+v; want %+v", c.n, got, c.want)
			}
		}
	}
}

// P9.3: an iterator ends where it is told to, and begins at the first leaf again.
func TestLeavesEnd(t *testing.T) {
	leaves := tree.Leaves(sample())
	for most := range 6 {
		seen := 0
		for range leaves {
			seen++
			if seen >= most {
				break
			}
		}
		if want := min(max(most, 1), 4); seen != want {
			t.Errorf("%d leaves were seen; want %d", seen, want)
		}
	}
	for a := range leaves {
		inner := slices.Collect(leaves)
		if len(inner) != 4 || !tree.Same(inner[0], span("A1", "B2")) {
			t.Errorf("within the iteration, at %+v: %+v", a, inner)
		}
	}
}

// P9.3: the tree is not kept: what becomes of it and of the leaves is not seen in the iteration.
func TestLeavesAreNew(t *testing.T) {
	three := func() node {
		return call("F", ref("A1"), minus(ref("B2")), node{Kind: tree.Fault, Args: []node{minus(ref("C3"))}})
	}
	want := []node{ref("A1"), ref("B2"), {Kind: tree.Fault, Args: []node{minus(ref("C3"))}}, ref("C3")}
	n := three()
	leaves := tree.Leaves(n)
	for range 3 {
		got := slices.Collect(leaves)
		if !slices.EqualFunc(got, want, tree.Same[string]) {
			t.Errorf("Leaves = %+v; want %+v", got, want)
		}
		for i := range got {
			spoil(&got[i])
		}
		if !tree.Same(n, three()) {
			t.Errorf("after a change of its leaves it is %+v", n)
		}
	}
	spoil(&n)
	if got := slices.Collect(leaves); !slices.EqualFunc(got, want, tree.Same[string]) {
		t.Errorf("after a change of the tree: %+v; want %+v", got, want)
	}
}

// spoil changes all nodes of a tree where they lie.
func spoil(n *node) {
	for i := range n.Args {
		spoil(&n.Args[i])
	}
	n.Kind, n.From = tree.Text, "changed"
}

// P9.3: all pairs of trees that differ in one field, at the top and below.
func TestSame(t *testing.T) {
	full := node{Kind: tree.Call, Num: 1, Text: "F", From: "A1", To: "B2", Args: []node{ref("C3"), number(4)}}
	l := make([]node, 14)
	for i := range l {
		l[i] = full
		l[i].Args = slices.Clone(full.Args)
	}
	l[1].Kind = tree.Binary
	l[2].Num = 2
	l[3].Text = "f"
	l[4].From = "B2"
	l[5].To = "A1"
	l[6].Args = nil
	l[7].Args = l[7].Args[:1]
	l[8].Args = append(l[8].Args, number(4))
	l[9].Args[0].From = "C4"
	l[10].Args[1].Num = -4
	l[11].Args[0], l[11].Args[1] = l[11].Args[1], l[11].Args[0]
	l[12].Args[1].Args = []node{{}}
	l[13] = node{}
	for range 3 {
		for i, a := range l {
			for j, b := range l {
				if got := tree.Same(a, b); got != (i == j) {
					t.Errorf("Same(%+v, %+v) = %v", a, b, got)
				}
			}
		}
		for i := range l {
			l[i] = binary("+", number(1), minus(l[i]))
		}
	}
}

// P9.3: a tree is the same as one made anew, and nil Args are the same as empty ones.
func TestSameOfEqual(t *testing.T) {
	if !tree.Same(sample(), sample()) || !tree.Same(node{}, node{}) {
		t.Error("a tree is not the same as itself")
	}
	for range 3 {
		a, b := call("F"), node{Kind: tree.Call, Text: "F", Args: make([]node, 0, 4)}
		if !tree.Same(a, b) || !tree.Same(b, a) || !tree.Same(minus(a), minus(b)) {
			t.Error("nil Args and empty ones are not the same")
		}
	}
	a := tree.Node[[2]int]{Kind: tree.Ref, From: [2]int{1, 2}}
	b := tree.Node[[2]int]{Kind: tree.Ref, From: [2]int{1, 3}}
	if !tree.Same(a, a) || tree.Same(a, b) {
		t.Error("references that are arrays")
	}
}

// P9.3: references that cannot be compared are not equal; Same does not panic at them.
func TestSameOfIncomparable(t *testing.T) {
	type over = tree.Node[any]
	list := over{Kind: tree.Ref, From: []int{1}}
	one := over{Kind: tree.Ref, From: 1}
	below := over{Kind: tree.Minus, Args: []over{list}}
	if tree.Same(list, list) || tree.Same(below, below) || tree.Same(list, one) || !tree.Same(one, one) {
		t.Error("references of an interface type")
	}
}

// Trees as deep as the document allows anything to be.
func TestDeep(t *testing.T) {
	const levels = 1 << 16
	n := ref("A1")
	for range levels - 1 {
		n = minus(n)
	}
	m := tree.Map(n, length)
	if tree.Depth(n) != levels || tree.Depth(m) != levels || tree.Right(n) || !tree.Same(n, n) || len(slices.Collect(tree.Leaves(n))) != 1 {
		t.Error("a deep tree")
	}
	if got := tree.Print(n, self); got != strings.Repeat("-", levels-1)+"A1" {
		t.Errorf("Print of a deep tree has %d bytes", len(got))
	}
}
