package scope_test

import (
	"slices"
	"strconv"
	"testing"

	"turnery/api"
	"turnery/scope"
)

// alike compares whole nodes.
func alike(a, b api.Node) bool {
	return a.Kind == b.Kind && a.Text == b.Text && a.N == b.N && a.Size == b.Size && a.At == b.At && slices.Equal(a.Kids, b.Kids)
}

// TestArgumentsStay: neither nodes, nor kids, nor what lies behind them in memory is changed.
func TestArgumentsStay(t *testing.T) {
	for _, text := range []string{"int x; int f(int y) { int x = x; for (int y = x; y; y--) { f(y, x); } return y; }", everyKind, "int x = y;"} {
		of := unitOf(t, text)
		// Each list of kids, and that of the nodes, has spare room with a value in it.
		spare := append(of.Nodes, api.Node{Kind: 66, Text: "spare"})
		of.Nodes = spare[:len(spare)-1]
		var kids [][]int
		for k := range of.Nodes {
			n := &of.Nodes[k]
			more := append(slices.Clone(n.Kids), -7)
			kids = append(kids, more)
			n.Kids = more[:len(more)-1]
		}
		before := slices.Clone(spare)
		var kidsBefore [][]int
		for _, list := range kids {
			kidsBefore = append(kidsBefore, slices.Clone(list))
		}
		first, f := scope.Names(of)
		second, g := scope.Names(of)
		if !slices.Equal(first, second) || f != g {
			t.Errorf("%s: %v, %v; then %v, %v", text, first, f, second, g)
		}
		if !slices.EqualFunc(spare, before, alike) || !slices.EqualFunc(kids, kidsBefore, slices.Equal) {
			t.Errorf("%v became %v", before, spare)
		}
	}
}

// TestResultsAreNew: a result is a part neither of the tree nor of another result.
func TestResultsAreNew(t *testing.T) {
	of := unitOf(t, "int x; int f(int y) { int x = x; return f(y) + x; }")
	before := unitOf(t, "int x; int f(int y) { int x = x; return f(y) + x; }")
	one, _ := scope.Names(of)
	two, _ := scope.Names(of)
	want := slices.Clone(one)
	one = one[:cap(one)]
	for i := range one {
		one[i] = 99
	}
	three, _ := scope.Names(of)
	if len(want) != len(of.Nodes) || !slices.Equal(two, want) || !slices.Equal(three, want) {
		t.Errorf("%v became %v and %v", want, two, three)
	}
	if !slices.EqualFunc(of.Nodes, before.Nodes, alike) {
		t.Errorf("%v became %v", before, of)
	}
	for k := range of.Nodes {
		of.Nodes[k].Text = "other"
		for i := range of.Nodes[k].Kids {
			of.Nodes[k].Kids[i] = -5
		}
	}
	if !slices.Equal(two, want) {
		t.Errorf("%v became %v with the tree", want, two)
	}
}

// TestMostNodes has units of as many nodes as a tree can have.
func TestMostNodes(t *testing.T) {
	var of api.Tree
	top := api.Node{Kind: api.TopUnit}
	want := make([]int, api.MaxNodes)
	for k := range api.MaxNodes - 1 {
		of.Nodes = append(of.Nodes, api.Node{Kind: api.TopVar, N: api.TypeInt, Text: "x" + strconv.Itoa(k)})
		top.Kids = append(top.Kids, k)
		want[k] = k
	}
	want[api.MaxNodes-1] = -1
	of.Nodes = append(of.Nodes, top)
	if got, f := scope.Names(of); f != (api.Fault{}) || !slices.Equal(got, want) {
		t.Errorf("%v, %v", got, f)
	}
	of.Nodes[api.MaxNodes-2].Text = "x0"
	fails(t, "the last one again", of, api.Fault{Code: api.ErrTwice, At: api.MaxNodes - 2})
	of.Nodes[api.MaxNodes-2].Text = "read"
	fails(t, "the last one is read", of, api.Fault{Code: api.ErrName, At: api.MaxNodes - 2})
}

// TestKeywords: a tree may have names that are words of the language; for scopes they are names like others.
func TestKeywords(t *testing.T) {
	of := unitOf(t, "int x; int f(int y) { int x = x; return f(y) + x; }")
	want, _ := scope.Names(of)
	for k := range of.Nodes {
		switch n := &of.Nodes[k]; n.Text {
		case "x":
			n.Text = "int"
		case "y":
			n.Text = "return"
		case "f":
			n.Text = "if"
		}
	}
	if got, f := scope.Names(of); f != (api.Fault{}) || len(want) == 0 || !slices.Equal(got, want) {
		t.Errorf("%v, %v; want %v", got, f, want)
	}
}
