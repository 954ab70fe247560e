package place_test

import (
	"slices"
	"strings"
	"testing"
	"unsafe"

	"turnery/api"
	"turnery/place"
)

// samples are units with faults and without.
func samples(t *testing.T) []api.Tree {
	t.Helper()
	var list []api.Tree
	for _, text := range []string{everyKind, "int a[3] = {1, 2}; int b; void main() {}", "void main() {} int a = 4; int *b; int c[5] = {1, -2, 3};", "int a[200]; int b; void main() {}", "int a = a; void main() {}", "void f(" + params(9) + ") {} void main() {}", "int a;", ""} {
		list = append(list, unitOf(t, text))
	}
	return list
}

// told is what the functions tell of a tree.
func told(of api.Tree) ([]api.Global, []any) {
	globals, f := place.Globals(of)
	list := []any{f, place.Check(of)}
	for k := -1; k <= len(of.Nodes); k++ {
		first, f := place.Of(of, k)
		list = append(list, first, f)
	}
	return globals, list
}

// sameNode compares whole nodes.
func sameNode(a, b api.Node) bool {
	return a.Kind == b.Kind && a.Text == b.Text && a.N == b.N && a.Size == b.Size && a.At == b.At && slices.Equal(a.Kids, b.Kids)
}

// TestArgumentsStay: neither nodes, nor kids, nor what lies behind them in memory is changed.
func TestArgumentsStay(t *testing.T) {
	for _, of := range samples(t) {
		// Each list of kids, and that of the nodes, has spare room with a value in it.
		spare := append(of.Nodes, api.Node{Kind: 66, Text: "spare"})
		of.Nodes = spare[:len(spare)-1]
		var kids, kidsBefore [][]int
		for k := range of.Nodes {
			n := &of.Nodes[k]
			more := append(slices.Clone(n.Kids), -7)
			n.Kids = more[:len(more)-1]
			kids, kidsBefore = append(kids, more), append(kidsBefore, slices.Clone(more))
		}
		before := slices.Clone(spare)
		first, one := told(of)
		second, two := told(of)
		if !slices.EqualFunc(first, second, alike) || !slices.Equal(one, two) {
			t.Errorf("%v: %v, %v; then %v, %v", of, first, one, second, two)
		}
		if !slices.EqualFunc(spare, before, sameNode) || !slices.EqualFunc(kids, kidsBefore, slices.Equal) {
			t.Errorf("%v became %v", before, spare)
		}
	}
}

// TestResultsAreNew: a result is a part neither of the tree, nor of another result, nor of another list of itself.
func TestResultsAreNew(t *testing.T) {
	of := unitOf(t, "int a[3] = {1, 2}; int b[2] = {3, 4}; void main() {}")
	want := []api.Global{{Name: "a", Size: 3, Init: []int{1, 2}}, {Name: "b", Size: 2, Init: []int{3, 4}}}
	one, _ := place.Globals(of)
	two, _ := place.Globals(of)
	for i := range one {
		scribble(one[i].Init)
		one[i] = api.Global{Name: "other", Size: -5}
	}
	for k := range of.Nodes {
		scribble(of.Nodes[k].Kids)
		of.Nodes[k] = api.Node{Kind: 77}
	}
	if !slices.EqualFunc(two, want, alike) {
		t.Errorf("%v became %v", want, two)
	}
	for _, g := range two {
		scribble(g.Init[len(g.Init):cap(g.Init)])
	}
	if !slices.EqualFunc(two, want, alike) {
		t.Errorf("%v became %v with itself", want, two)
	}
	scribble(two[0].Init)
	if !alike(two[1], want[1]) {
		t.Errorf("%v became %v with the first one", want[1], two[1])
	}
}

// scribble writes over a list and what lies behind it in memory.
func scribble(list []int) {
	list = list[:cap(list)]
	for i := range list {
		list[i] = -9
	}
}

// TestNamesAreNew: the names are not parts of the tree's texts.
func TestNamesAreNew(t *testing.T) {
	name := strings.Repeat("x", api.MaxName)
	of := unitOf(t, "int x; void main() {}")
	of.Nodes[0].Text = name
	one, f := place.Globals(of)
	two, _ := place.Globals(of)
	if f != (api.Fault{}) || one[0].Name != name || unsafe.StringData(one[0].Name) == unsafe.StringData(name) || unsafe.StringData(one[0].Name) == unsafe.StringData(two[0].Name) {
		t.Errorf("%v, %v", one, f)
	}
}
