package consts_test

import (
	"fmt"
	"strings"
	"testing"

	"turnery/api"
	"turnery/consts"
	"turnery/parse"
	"turnery/tree"
	"turnery/types"
)

// wrong is a text that has a fault at the node with the $.
type wrong struct {
	text string
	code int
}

// other is the text without the mark, as that of a fault behind another one.
func (w wrong) other() string { return plain(w.text) }

// wrongActions: actions with a fault in the test's world, one or more for each sentence about them.
func wrongActions() []wrong {
	return []wrong{
		{"switch (i) { $case i: }", api.ErrForm}, {"switch (1) { case 1: $case 1 / 0: }", api.ErrForm}, {"{ switch (n) { default: { switch (l) { $case n: } } } }", api.ErrForm},
		{"switch (i) { case 1: $case 1: }", api.ErrTwice}, {"switch (i) { default: $default: }", api.ErrTwice}, {"for (;;) { switch (i) { case 3: default: case 2: $case 1 + 1: } }", api.ErrTwice},
	}
}

// wrongTops: globals and functions with a fault.
func wrongTops() []wrong {
	list := []wrong{
		{"int g = $i;", api.ErrForm}, {"int g = 1 $/ 0;", api.ErrForm}, {"int g[3] = {1, $read()};", api.ErrForm}, {"int *g = $a;", api.ErrForm}, {"int *g = $&i;", api.ErrForm},
	}
	for _, w := range wrongActions() {
		list = append(list, wrong{"void g(int n, int *q) { int l; " + w.text + " }", w.code})
	}
	return list
}

func TestFaults(t *testing.T) {
	for _, w := range wrongActions() {
		faulty(t, inWorld(w.text), w.code)
		faulty(t, inWorld("l = n; { "+w.text+" } p = q;"), w.code)
	}
	for _, w := range wrongTops() {
		faulty(t, world+w.text+" void main() {}", w.code)
		faulty(t, w.text+" void main() {} "+world, w.code)
	}
}

// TestTwoFaults: of two faults that of the first node in the list counts.
func TestTwoFaults(t *testing.T) {
	for _, one := range wrongActions() {
		for _, two := range wrongActions() {
			faulty(t, inWorld(one.text+" "+two.other()), one.code)
			faulty(t, inWorld("if (i) { "+one.text+" } else { "+two.other()+" }"), one.code)
		}
	}
	for _, one := range wrongTops() {
		for _, two := range wrongTops() {
			faulty(t, world+one.text+" void main() {} "+strings.Replace(two.other(), "g", "h", 1), one.code)
		}
	}
}

// TestOrderInSwitch: a case stands ahead of its switch in the list, and what is in a switch ahead of what is around it.
func TestOrderInSwitch(t *testing.T) {
	faulty(t, inWorld("switch (i) { case 1: case 1: $case i: }"), api.ErrForm)
	faulty(t, inWorld("switch (i) { default: default: $case 1 / 0: case i: }"), api.ErrForm)
	faulty(t, inWorld("switch (i) { case 1: case 1: switch (i) { case 2: $case 2: } }"), api.ErrTwice)
	faulty(t, inWorld("switch (i) { case 1: case 1: switch (i) { default: $default: } default: default: }"), api.ErrTwice)
	faulty(t, inWorld("switch (i) { case 1: case 1: switch (i) { $case n: } }"), api.ErrForm)
	faulty(t, inWorld("switch (i) { $case i: switch (i) { case 2: case 2: } }"), api.ErrForm)
	faulty(t, inWorld("switch (i) { switch (i) { case 2: $case 2: } case i: }"), api.ErrTwice)
	faulty(t, inWorld("switch (i) { case 1: $case 1: switch (i) { case 2: } }"), api.ErrTwice)
	faulty(t, inWorld("switch (i) { case 1: $case 1: } switch (i) { case i: }"), api.ErrTwice)
}

// wrongTypes: globals and functions with a fault of names or of types.
func wrongTypes() []wrong {
	return []wrong{
		{"int $read;", api.ErrName}, {"int $i;", api.ErrTwice}, {"int z = $u;", api.ErrNone}, {"void z() { int x; int $x; }", api.ErrTwice}, {"void z() { switch (1) { case $u: } }", api.ErrNone},
		{"int $z = p;", api.ErrType}, {"int *$z = 0;", api.ErrType}, {"int $z = v();", api.ErrType}, {"int $z[2] = {1, p};", api.ErrType}, {"int z = $&1;", api.ErrType}, {"int z = 1 $= 2;", api.ErrType},
		{"void z() { switch (i) { $case p: } }", api.ErrType}, {"void z() { $switch (p) { case 1: } }", api.ErrType}, {"void z() { $break; }", api.ErrState}, {"void z() { switch (i) { case 1: $continue; } }", api.ErrState}, {"int z() { $return; }", api.ErrType},
	}
}

// TestTypesFirst: faults of names and of types come ahead of all those of constants, wherever they are.
func TestTypesFirst(t *testing.T) {
	for _, one := range wrongTypes() {
		faulty(t, world+one.text+" void main() {}", one.code)
		for _, two := range wrongTops() {
			faulty(t, world+two.other()+" "+one.text+" void main() {}", one.code)
			faulty(t, world+one.text+" "+two.other()+" void main() {}", one.code)
		}
	}
	for _, two := range wrongTops() {
		fails(t, two.text, unitOf(t, world+two.other()), api.Fault{Code: api.ErrNone})
		fails(t, two.text, unitOf(t, world+two.other()+" int main;"), api.Fault{Code: api.ErrNone})
		faulty(t, world+two.other()+" void $main(int x) {}", api.ErrForm)
		faulty(t, "void $main(int x) {} "+world+two.other(), api.ErrForm)
	}
	for _, one := range wrongTypes() {
		for _, two := range wrongTypes() {
			text := world + one.other() + " " + strings.ReplaceAll(two.other(), "z", "zz") + " int c = i; void main(int x) { switch (1) { case 1: case 1: case i: } }"
			of := unitOf(t, text)
			_, want := types.Of(of)
			if want.Code == api.OK {
				t.Fatalf("%s: no fault", text)
			}
			fails(t, text, of, want)
		}
	}
}

// partsOf is each part of a tree by itself.
func partsOf(t *testing.T, of api.Tree) []api.Tree {
	t.Helper()
	var list []api.Tree
	for k := range of.Nodes {
		part, f := tree.Part(of, k)
		if f != (api.Fault{}) {
			t.Fatal(f)
		}
		list = append(list, part)
	}
	return list
}

// TestNoUnit: Check takes no tree whose last node is of another kind than TopUnit.
func TestNoUnit(t *testing.T) {
	kinds := map[int]bool{}
	for _, part := range append(partsOf(t, unitOf(t, everyKind)), partsOf(t, unitOf(t, inWorld("switch (i) { case 1: case 1: default: default: case i: }")))...) {
		last := part.Nodes[len(part.Nodes)-1]
		if last.Kind == api.TopUnit {
			continue
		}
		kinds[last.Kind] = true
		fails(t, fmt.Sprint("a part of kind ", last.Kind), part, api.Fault{Code: api.ErrState})
	}
	if len(kinds) != 3+14+10 {
		t.Errorf("%d kinds of parts", len(kinds))
	}
	fine(t, everyKind)
	fails(t, "the empty unit", unitOf(t, ""), api.Fault{Code: api.ErrNone})
}

// misshapen are trees with a fault of their form.
func misshapen(t *testing.T) map[api.Fault]api.Tree {
	t.Helper()
	x, one := api.Node{Kind: api.IsName, Text: "x"}, api.Node{Kind: api.IsNum, N: 1}
	list := map[api.Fault]api.Tree{
		{Code: api.ErrKind, At: 1}:  {Nodes: []api.Node{x, {Kind: 77}}},
		{Code: api.ErrSize, At: 1}:  {Nodes: []api.Node{one, {Kind: api.IsTwo, Text: "+", Kids: []int{0}}}},
		{Code: api.ErrForm, At: 1}:  {Nodes: []api.Node{x, {Kind: api.TopUnit, Kids: []int{0}}}},
		{Code: api.ErrForm, At: 2}:  {Nodes: []api.Node{one, one, {Kind: api.IsOne, Text: "-", Kids: []int{1}}}},
		{Code: api.ErrName}:         {Nodes: []api.Node{{Kind: api.IsName}}},
		{Code: api.ErrText, At: 1}:  {Nodes: []api.Node{one, {Kind: api.IsOne, Text: "+", Kids: []int{0}}}},
		{Code: api.ErrText, At: 2}:  {Nodes: []api.Node{one, one, {Kind: api.IsTwo, Text: "&&", Kids: []int{0, 1}}}},
		{Code: api.ErrRange}:        {Nodes: []api.Node{{Kind: api.IsNum, N: -1}}},
		{Code: api.ErrRange, At: 1}: {Nodes: []api.Node{one, {Kind: api.IsOne, Text: "-", Kids: []int{0}, At: -1}}},
		{Code: api.ErrMany}:         {},
	}
	deep := api.Tree{Nodes: []api.Node{one}}
	for k := range api.MaxDeep {
		deep.Nodes = append(deep.Nodes, api.Node{Kind: api.IsOne, Text: "-", Kids: []int{k}})
	}
	// Folding it would not be too deep.
	list[api.Fault{Code: api.ErrMuch}] = deep
	for want, of := range list {
		if f := tree.Check(of); f != want {
			t.Fatalf("%v: %v", want, f)
		}
	}
	return list
}

// formFirst tells the test if what is wrong with the form of a tree is not what all functions find.
func formFirst(t *testing.T, of api.Tree, want api.Fault) {
	t.Helper()
	fails(t, fmt.Sprint(of), of, want)
	noFold(t, fmt.Sprint(of), of, want)
	for _, k := range []int{-1, 0, 1, len(of.Nodes) - 1, len(of.Nodes), 5000} {
		if value, ok, f := consts.Value(of, k); value != 0 || ok || f != want {
			t.Errorf("node %d of %v: %d, %v, %v; want %v", k, of, value, ok, f, want)
		}
	}
}

// TestFaultsOfFormFirst: what is wrong with the form of a tree comes ahead of anything else.
func TestFaultsOfFormFirst(t *testing.T) {
	for want, of := range misshapen(t) {
		formFirst(t, of, want)
	}
	formFirst(t, api.Tree{Nodes: []api.Node{}}, api.Fault{Code: api.ErrMany})
	formFirst(t, api.Tree{Nodes: make([]api.Node, api.MaxNodes+1)}, api.Fault{Code: api.ErrMany})
	// The last node is wrong in its form, and others otherwise.
	for _, w := range append(wrongTops(), wrongTypes()...) {
		for _, part := range partsOf(t, unitOf(t, world+w.other())) {
			last := len(part.Nodes) - 1
			part.Nodes[last].At = -1
			formFirst(t, part, api.Fault{Code: api.ErrRange, At: last})
			part.Nodes[last].Kind = 0
			formFirst(t, part, api.Fault{Code: api.ErrKind, At: last})
		}
	}
	text, _ := parse.Expr("1 + 1")
	noFold(t, "a sum cut short", api.Tree{Nodes: text.Nodes[:2]}, api.Fault{Code: api.ErrForm, At: 1})
}
