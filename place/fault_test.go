package place_test

import (
	"fmt"
	"testing"

	"turnery/api"
	"turnery/consts"
	"turnery/parse"
	"turnery/tree"
)

// wrong is a part of a unit with a fault. If it is one of this package, it is at the global or function of that name, or, behind one more of each, at the late one.
type wrong struct {
	text       string
	code       int
	name, late string
}

// wrongSizes: parts of units with too many of something.
func wrongSizes() []wrong {
	seven := params(api.MaxParams + 1)
	return []wrong{
		{"void p(" + seven + ") {}", api.ErrMany, "p", "p"},
		{"int q; int *q2(int n, " + seven + ") { return p1; }", api.ErrMany, "q2", "q2"},
		{"int w[200]; int *w2;", api.ErrMuch, "w2", "w"},
		{"int w3[150] = {1, 2}; int w4[51];", api.ErrMuch, "w4", "w4"},
		{many(1, 11, "int g#;"), api.ErrMuch, "g11", "g10"},
		{many(1, 11, "void f#() {}"), api.ErrMuch, "f11", "f10"},
	}
}

// wrongBefore: parts of units with a fault that consts.Check finds, of each code.
func wrongBefore() []wrong {
	return []wrong{
		{text: "int read;", code: api.ErrName}, {text: "void print() {}", code: api.ErrName},
		{text: "int main;", code: api.ErrTwice}, {text: "void t(int x, int x) {}", code: api.ErrTwice}, {text: "void t() { switch (1) { case 1: case 1: } }", code: api.ErrTwice}, {text: "void t() { switch (1) { default: default: } }", code: api.ErrTwice},
		{text: "int t = u;", code: api.ErrNone}, {text: "void t() { u(); }", code: api.ErrNone},
		{text: "int *t = 0;", code: api.ErrType}, {text: "int t() { return; }", code: api.ErrType},
		{text: "void t() { break; }", code: api.ErrState},
		{text: "int t; int *tt = &t;", code: api.ErrForm}, {text: "int t = 1 / 0;", code: api.ErrForm}, {text: "int t; int tt[2] = {1, t};", code: api.ErrForm}, {text: "void t(int n) { switch (n) { case n: } }", code: api.ErrForm},
	}
}

// TestFaults has each fault by itself, with its index.
func TestFaults(t *testing.T) {
	for _, w := range wrongSizes() {
		faulty(t, w.text+" void main() {}", w.code, w.name)
		faulty(t, "void main() {} int z; "+w.text+" int y; void x() {}", w.code, w.late)
	}
	for _, w := range wrongBefore() {
		beforehand(t, w.text+" void main() {}", w.code)
		beforehand(t, "void main() {} "+w.text, w.code)
	}
	for text, want := range map[string]api.Fault{
		"int read; void main() {}":                               {Code: api.ErrName},
		"void main() {} int t; int u; int t;":                    {Code: api.ErrTwice, At: 4},
		"int t; int u = 1 + t; void main() {}":                   {Code: api.ErrForm, At: 3},
		"int t; int *u = &t; void main() {}":                     {Code: api.ErrForm, At: 2},
		"void main() { switch (1) { case 1: case 2: case 1: } }": {Code: api.ErrTwice, At: 6},
		"int t; void main(int n) {}":                             {Code: api.ErrForm, At: 3},
		"":                                                       {Code: api.ErrNone},
		"int t; void f() {}":                                     {Code: api.ErrNone},
		"void f() {} void main() { int x; x = f(); }":            {Code: api.ErrType, At: 5},
		"int a[200]; void f(int n) {} int b; int c[200]; void main() {}":            {Code: api.ErrMuch, At: 4},
		"int a; void f(int n, int *m) { n++; } int b[200]; void main() {}":          {Code: api.ErrMuch, At: 8},
		"void f(int a, int b, int c, int d, int e, int f, int g) {} int h;":         {Code: api.ErrNone},
		"void f(int a, int b, int c, int d, int e, int f, int g) {} void main() {}": {Code: api.ErrMany, At: 8},
	} {
		fails(t, text, unitOf(t, text), want)
	}
}

// beforehand tells the test if a unit does not have the fault of consts.Check, of that code.
func beforehand(t *testing.T, text string, code int) {
	t.Helper()
	of := unitOf(t, text)
	want := consts.Check(of)
	if want.Code != code {
		t.Errorf("%s: %v; want the code %d", text, want, code)
	}
	fails(t, text, of, want)
}

// TestConstsFirst: faults that consts.Check finds come ahead of all others, wherever they are.
func TestConstsFirst(t *testing.T) {
	for _, one := range wrongBefore() {
		for _, two := range wrongSizes() {
			beforehand(t, one.text+" "+two.text+" void main() {}", one.code)
			beforehand(t, two.text+" void main() {} "+one.text, one.code)
		}
	}
	for _, two := range wrongSizes() {
		beforehand(t, two.text, api.ErrNone)
		beforehand(t, two.text+" void main(int n) {}", api.ErrForm)
		beforehand(t, "void main("+params(api.MaxParams+1)+") {} "+two.text, api.ErrForm)
	}
	// Both are at one child.
	beforehand(t, many(1, 10, "int g#;")+"int g11 = g1; void main() {}", api.ErrForm)
	beforehand(t, many(1, 10, "int g#;")+"int *g11 = 1; void main() {}", api.ErrType)
	beforehand(t, "int a[200]; int b[2] = {1, 1 / 0}; void main() {}", api.ErrForm)
	beforehand(t, "void f("+params(7)+", int p1) {} void main() {}", api.ErrTwice)
	beforehand(t, many(1, 10, "void f#() {}")+"void f11() { continue; } void main() {}", api.ErrState)
	beforehand(t, many(1, 10, "void f#() {}")+"void main(int n) {}", api.ErrForm)
}

// TestTwoFaults: of two faults that of the first child counts.
func TestTwoFaults(t *testing.T) {
	for _, one := range wrongSizes() {
		for _, two := range wrongSizes() {
			if one != two {
				faulty(t, one.text+" "+two.text+" void main() {}", one.code, one.name)
				faulty(t, one.text+" void main() {} int z; "+two.text, one.code, one.name)
			}
		}
	}
	seven := params(api.MaxParams + 1)
	faulty(t, "void f("+seven+") {} void g("+seven+") {} void main() {}", api.ErrMany, "f")
	faulty(t, "int a[200]; int b; void f("+seven+") {} void main() {}", api.ErrMuch, "b")
	faulty(t, "int a[200]; void f("+seven+") {} int b; void main() {}", api.ErrMany, "f")
	faulty(t, many(1, 10, "int g#;")+"void f("+seven+") {} int g11; void main() {}", api.ErrMany, "f")
	faulty(t, many(1, 10, "int g#;")+"int g11; void f("+seven+") {} void main() {}", api.ErrMuch, "g11")
	faulty(t, many(1, 9, "int g#[20];")+"int g10[21]; int g11; void main() {}", api.ErrMuch, "g10")
	faulty(t, many(1, 9, "int g#[20];")+"int g10[20]; int g11[21]; void main() {}", api.ErrMuch, "g11")
	faulty(t, "void main() {} "+many(1, 9, "void f#() {}")+"void f10("+params(6)+") {} void f11("+seven+") {}", api.ErrMuch, "f10")
}

// TestTwoAtOneChild: too many parameters come ahead of too many functions.
func TestTwoAtOneChild(t *testing.T) {
	for _, count := range []int{api.MaxParams + 1, api.MaxParams + 2, 20} {
		f := "f11(" + params(count) + ") {} "
		faulty(t, many(1, 10, "void f#() {}")+"void "+f+"void main() {}", api.ErrMany, "f11")
		faulty(t, "void main() {} "+many(1, 9, "int f#(int n) { return n; }")+"int a[200]; int "+f+"int b; void f12("+params(count)+") {}", api.ErrMany, "f11")
	}
	faulty(t, many(1, 10, "void f#() {}")+"void f11("+params(api.MaxParams)+") {} void main() {}", api.ErrMuch, "f11")
}

// TestNoUnit: a tree whose last node is of another kind than TopUnit has no words.
func TestNoUnit(t *testing.T) {
	of := unitOf(t, everyKind)
	kinds := map[int]bool{}
	for k, n := range of.Nodes[:len(of.Nodes)-1] {
		part, f := tree.Part(of, k)
		if f != (api.Fault{}) {
			t.Fatal(f)
		}
		kinds[n.Kind] = true
		fails(t, fmt.Sprint("a part of kind ", n.Kind), part, api.Fault{Code: api.ErrState})
	}
	if len(kinds) != 3+14+10 {
		t.Errorf("%d kinds of parts", len(kinds))
	}
}

// TestFaultsOfFormFirst: what is wrong with the form of a tree comes ahead of anything else.
func TestFaultsOfFormFirst(t *testing.T) {
	x, one := api.Node{Kind: api.IsName, Text: "x"}, api.Node{Kind: api.IsNum, N: 1}
	for want, nodes := range map[api.Fault][]api.Node{
		{Code: api.ErrMany}:         {},
		{Code: api.ErrKind, At: 1}:  {x, {Kind: 77}},
		{Code: api.ErrSize, At: 1}:  {one, {Kind: api.TopFunc, Text: "main"}},
		{Code: api.ErrForm, At: 1}:  {x, {Kind: api.TopUnit, Kids: []int{0}}},
		{Code: api.ErrName}:         {{Kind: api.TopVar, N: api.TypeInt}},
		{Code: api.ErrText, At: 1}:  {one, {Kind: api.IsOne, Text: "+", Kids: []int{0}}},
		{Code: api.ErrRange}:        {{Kind: api.TopVar, Text: "x", N: api.TypeArray}},
		{Code: api.ErrRange, At: 1}: {x, {Kind: api.DoExpr, Kids: []int{0}, At: -1}},
	} {
		fails(t, fmt.Sprint(nodes), api.Tree{Nodes: nodes}, want)
	}
	fails(t, "nothing", api.Tree{}, api.Fault{Code: api.ErrMany})
	fails(t, "too many nodes", api.Tree{Nodes: make([]api.Node, api.MaxNodes+1)}, api.Fault{Code: api.ErrMany})
	deep, _ := parse.Expr("1")
	for k := range api.MaxDeep {
		deep.Nodes = append(deep.Nodes, api.Node{Kind: api.IsOne, Text: "-", Kids: []int{k}})
	}
	fails(t, "too deep", deep, api.Fault{Code: api.ErrMuch})
	// The last node is wrong in its form, and others otherwise.
	for _, w := range append(wrongSizes(), wrongBefore()...) {
		of := unitOf(t, w.text+" void main() {}")
		last := len(of.Nodes) - 1
		of.Nodes[last].At = -1
		fails(t, "a wrong offset behind "+w.text, of, api.Fault{Code: api.ErrRange, At: last})
		of.Nodes[last].Kids = of.Nodes[last].Kids[1:]
		fails(t, "a kid too few behind "+w.text, of, tree.Check(of))
		of.Nodes[last].Kind = 0
		fails(t, "no kind behind "+w.text, of, api.Fault{Code: api.ErrKind, At: last})
	}
}
