package types_test

import (
	"slices"
	"strings"
	"testing"

	"turnery/api"
	"turnery/parse"
	"turnery/types"
)

// world is what the tests' functions are in: a global of each type, and functions of each result.
const world = "int i; int *p; int a[3]; void v() {} void w(int n) {} int fi() { return 1; } int *fp() { return p; } "

// inWorld is a unit with these actions in a function that has parameters and locals of each type.
func inWorld(actions string) string {
	return world + "void test(int n, int *q) { int l; int *r; " + actions + " } void main() {}"
}

// unitOf is the tree of a text that can be parsed.
func unitOf(t *testing.T, text string) api.Tree {
	t.Helper()
	of, f := parse.Unit(text)
	if f != (api.Fault{}) {
		t.Fatalf("%s: %v", text, f)
	}
	return of
}

// typeOf is what a letter of a type stands for: i, p or v.
func typeOf(t *testing.T, letter string) int {
	t.Helper()
	switch letter {
	case "i":
		return api.TypeInt
	case "p":
		return api.TypePtr
	case "v":
		return api.TypeVoid
	}
	t.Fatalf("no type %q", letter)
	return -1
}

// fine tells the test if a text has a fault.
func fine(t *testing.T, text string) {
	t.Helper()
	of := unitOf(t, text)
	if got, f := types.Of(of); f != (api.Fault{}) || len(got) != len(of.Nodes) {
		t.Errorf("%s: %v, %v", text, got, f)
	}
}

// fails tells the test if a tree does not have just that fault.
func fails(t *testing.T, what string, of api.Tree, want api.Fault) {
	t.Helper()
	if got, f := types.Of(of); f != want || len(got) != 0 {
		t.Errorf("%s: %v, %v; want %v", what, got, f, want)
	}
}

// faulty tells the test if the fault of a text is another one, or at another node, than the one whose offset is that of the $.
func faulty(t *testing.T, marked string, code int) {
	t.Helper()
	text := strings.ReplaceAll(marked, "$", "")
	of := unitOf(t, text)
	at := -1
	for k, n := range of.Nodes {
		// Nodes of these kinds stand where another one stands, and none of them can be wrong.
		if n.At != strings.Index(marked, "$") || slices.Contains([]int{api.DoExpr, api.DoBlock, api.TopUnit, api.DoNothing}, n.Kind) {
			continue
		}
		if at >= 0 {
			t.Fatalf("%s: two nodes with a $: %d and %d", marked, at, k)
		}
		at = k
	}
	if at < 0 || len(text)+1 != len(marked) {
		t.Fatalf("%s: not one node with a $", marked)
	}
	fails(t, marked, of, api.Fault{Code: code, At: at})
}

// wrongType is faulty for actions in the test's world.
func wrongType(t *testing.T, actions string) {
	t.Helper()
	faulty(t, inWorld(actions), api.ErrType)
}

// tells tells the test if the only DoExpr of a text has an expression of another type; "-": it shall be a fault.
func tells(t *testing.T, text, letter string) {
	t.Helper()
	of := unitOf(t, text)
	at := -1
	for k, n := range of.Nodes {
		if n.Kind == api.DoExpr {
			if at >= 0 {
				t.Fatalf("%s: two expressions", text)
			}
			at = of.Nodes[k].Kids[0]
		}
	}
	if at < 0 {
		t.Fatalf("%s: no expression", text)
	}
	if letter == "-" {
		fails(t, text, of, api.Fault{Code: api.ErrType, At: at})
		return
	}
	got, f := types.Of(of)
	if f != (api.Fault{}) || len(got) != len(of.Nodes) {
		t.Errorf("%s: %v, %v", text, got, f)
		return
	}
	if want := typeOf(t, letter); got[at] != want {
		t.Errorf("%s: node %d has the type %d; want %d", text, at, got[at], want)
	}
}

// is is tells for an expression in the test's world.
func is(t *testing.T, expr, letter string) {
	t.Helper()
	tells(t, inWorld(expr+";"), letter)
}
