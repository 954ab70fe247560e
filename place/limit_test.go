package place_test

import (
	"fmt"
	"strings"
	"testing"

	"turnery/api"
)

// params are so many parameters, of ints and of pointers in turn.
func params(count int) string {
	var list []string
	for k := range count {
		list = append(list, fmt.Sprint([]string{"int p", "int *p"}[k%2], k))
	}
	return strings.Join(list, ", ")
}

// many is a text once for each number from one to another, with the number in it.
func many(from, to int, text string) string {
	list := ""
	for k := from; k <= to; k++ {
		list += strings.ReplaceAll(text, "#", fmt.Sprint(k)) + " "
	}
	return list
}

// TestParams: MaxParams of them are no fault, and MaxParams + 1 are one of that function.
func TestParams(t *testing.T) {
	for count := range api.MaxParams + 1 {
		fine(t, "void f("+params(count)+") {} void main() {}")
		fine(t, "void main() {} int g; int *f("+params(count)+") { int a; int b; int c; int d; int e; int h; int i; f("+args(count)+"); return &g; }")
	}
	for _, count := range []int{api.MaxParams + 1, api.MaxParams + 2, 2 * api.MaxParams, 50} {
		for _, kind := range []string{"void ", "int ", "int *"} {
			f := kind + "f(" + params(count) + ") {} "
			faulty(t, f+"void main() {}", api.ErrMany, "f")
			faulty(t, "int g; void main() {} int h(int n) { return n; } "+f+"int i;", api.ErrMany, "f")
			faulty(t, f+"void main() {} void g("+params(count+1)+") {}", api.ErrMany, "f")
		}
	}
	// Those of two functions do not count as one's.
	fine(t, "void f("+params(api.MaxParams)+") {} void g("+params(api.MaxParams)+") {} void main() {}")
}

// args are so many arguments of the types of params.
func args(count int) string {
	var list []string
	for k := range count {
		list = append(list, []string{"1", "&g"}[k%2])
	}
	return strings.Join(list, ", ")
}

// TestManyGlobals: MaxGlobals of them are no fault, and one more is the fault of that one.
func TestManyGlobals(t *testing.T) {
	for _, text := range []string{"int g#;", "int *g#;", "int g#[1];", "int g#[20];", "int g# = #;", "int g#[2] = {#};"} {
		fine(t, many(1, api.MaxGlobals, text)+"void main() {}")
		fine(t, "void main() {} void f() { int a; int b; } "+many(1, api.MaxGlobals, text))
	}
	for _, text := range []string{"int g#;", "int *g#;", "int g#[1];", "int g#[18];", "int g# = #;", "int g#[2] = {#};"} {
		for _, more := range []int{1, 2, 9} {
			list := many(1, api.MaxGlobals+more, text)
			faulty(t, list+"void main() {}", api.ErrMuch, "g11")
			faulty(t, "void f() {} int f2(int n) { return n; } "+list+"void main() {}", api.ErrMuch, "g11")
			faulty(t, "void main() {} int h; "+list, api.ErrMuch, "g10")
		}
	}
	// What is declared elsewhere is no global.
	locals := many(1, 20, "int l#;")
	fine(t, many(1, api.MaxGlobals, "int g#;")+"void f("+params(api.MaxParams)+") { "+locals+"{ "+locals+"} } void main() { "+locals+"}")
	faulty(t, many(1, 5, "int g#; void f#() {}")+"void main() {} "+many(6, 11, "int *g#;"), api.ErrMuch, "g11")
}

// TestManyFunctions: MaxFuncs of them are no fault, and one more is the fault of that one. The function main is one of them.
func TestManyFunctions(t *testing.T) {
	for _, text := range []string{"void f#() {}", "int f#(int n) { return n; }", "int *f#(" + params(api.MaxParams) + ") { return p1; }"} {
		fine(t, many(1, api.MaxFuncs-1, text)+"void main() {}")
		fine(t, "int g; void main() { read(); print(1); } "+many(1, api.MaxFuncs-1, text)+"int h;")
		for _, more := range []int{1, 2, 9} {
			list := many(1, api.MaxFuncs-1+more, text)
			faulty(t, "void main() {} "+list, api.ErrMuch, "f10")
			faulty(t, "int g; int h[20]; int *i; void main() {} "+list+"int j;", api.ErrMuch, "f10")
		}
		faulty(t, many(1, api.MaxFuncs, text)+"void main() {}", api.ErrMuch, "main")
		faulty(t, many(1, api.MaxFuncs+1, text)+"void main() {}", api.ErrMuch, "f11")
	}
	faulty(t, many(1, 5, "int g#; void f#() {}")+"void main() {} "+many(6, 10, "int *g#; void f#() {}"), api.ErrMuch, "f10")
}

// TestManyWords: MaxWords of them are no fault, and one more is the fault of the global that has it.
func TestManyWords(t *testing.T) {
	for _, text := range []string{"int a[200];", "int a[199]; int b;", "int a; int b[199];", "int *a; int b[199];", "int a[100]; int b[100];", "int a[1]; int b[198]; int *c;", "int a[66]; int b; int c[133];", many(1, 10, "int a#[20];"), "int a[191]; " + many(1, 9, "int a#;"), "int a[200] = {1, 2};", "int a[150] = {}; int b[50] = {7};"} {
		fine(t, text+" void main() {}")
		fine(t, "void f() { int x; int y; } "+text+" void main() {}")
		fine(t, "void main() {} "+text)
	}
	for _, text := range []string{"int a[200]; int w;", "int a[200]; int *w;", "int a[200]; int w[1];", "int a[200]; int w[200];", "int a[199]; int w[2];", "int a; int w[200];", "int *a; int w[200];", "int a[1]; int w[200];", "int a[100]; int w[101];", "int a[101]; int w[100];", "int a[1]; int b[198]; int *c; int w;", "int a[66]; int b; int w[134];", "int a[150]; int b[40]; int w[11];", "int a[200]; int w = 5;", "int a[199] = {1}; int w[2] = {};", many(1, 9, "int a#[20];") + "int w[21];", "int a[191]; " + many(1, 8, "int a#;") + "int w[2];"} {
		faulty(t, text+" void main() {}", api.ErrMuch, "w")
		faulty(t, "void f() { int x; } "+strings.Replace(text, "; ", "; int f2(int n) { return n; } ", 1)+" void main() {}", api.ErrMuch, "w")
		faulty(t, "void main() {} "+text+" int x; void f() {} int y[200];", api.ErrMuch, "w")
	}
}

// TestAllMost has all numbers at their largest at once.
func TestAllMost(t *testing.T) {
	funcs := many(1, api.MaxFuncs-1, "void f#("+params(api.MaxParams)+") {}")
	globals := many(1, api.MaxGlobals, "int g#[20];")
	fine(t, globals+funcs+"void main() {}")
	fine(t, "void main() {} "+funcs+globals)
	fine(t, many(1, 9, "int g#[20]; void f#("+params(api.MaxParams)+") {}")+"int g10[20]; void main() {}")
	faulty(t, globals+funcs+"void main() {} int x;", api.ErrMuch, "x")
	faulty(t, globals+funcs+"void main() {} void x() {}", api.ErrMuch, "x")
	faulty(t, globals+funcs+"int x; void main() {}", api.ErrMuch, "x")
	faulty(t, many(1, 9, "int g#[20];")+"int x[21]; "+funcs+"void main() {}", api.ErrMuch, "x")
	faulty(t, globals+strings.Replace(funcs, "f5(", "f5(int q, ", 1)+"void main() {}", api.ErrMany, "f5")
}

// TestMostNodes has units of as many nodes as a tree can have.
func TestMostNodes(t *testing.T) {
	var of api.Tree
	add := func(n api.Node) { of.Nodes = append(of.Nodes, n) }
	add(api.Node{Kind: api.DoBlock})
	add(api.Node{Kind: api.TopFunc, Text: "main", Kids: []int{0}})
	unit := api.Node{Kind: api.TopUnit, Kids: []int{1}}
	for k := range api.MaxNodes - 3 {
		add(api.Node{Kind: api.TopVar, N: api.TypeArray, Size: api.MaxWords, Text: fmt.Sprint("x", k)})
		unit.Kids = append(unit.Kids, k+2)
	}
	add(unit)
	fails(t, "arrays", of, api.Fault{Code: api.ErrMuch, At: 3})
	for k := range of.Nodes {
		if n := &of.Nodes[k]; n.Kind == api.TopVar {
			n.N, n.Size = api.TypePtr, 0
		}
	}
	fails(t, "pointers", of, api.Fault{Code: api.ErrMuch, At: 2 + api.MaxGlobals})
	// The second function has all nodes that are left as its parameters, but for its body.
	for k := range of.Nodes {
		if n := &of.Nodes[k]; n.Kind == api.TopVar {
			n.Kind, n.N = api.TopParam, api.TypeInt
		}
	}
	last := api.MaxNodes - 1
	of.Nodes[last-2] = api.Node{Kind: api.DoBlock}
	of.Nodes[last-1] = api.Node{Kind: api.TopFunc, Text: "f", Kids: unit.Kids[1 : last-2]}
	of.Nodes[last] = api.Node{Kind: api.TopUnit, Kids: []int{1, last - 1}}
	fails(t, "parameters", of, api.Fault{Code: api.ErrMany, At: last - 1})
}
