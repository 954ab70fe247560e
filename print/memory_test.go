package print_test

import (
	"slices"
	"strings"
	"testing"
	"unsafe"

	"turnery/api"
	"turnery/print"
)

func sample(t *testing.T) api.Tree {
	return unitOf(t, "int a[3] = {1, -2}; int f(int x, int *y) { for (int i = 0; i < 3; i++) if ((x = i) + 1) y[i]++; else f(x, &(*y)); return (x ? 1 : 2) * 3; }")
}

// TestArgumentsStay: neither nodes, nor kids, nor what lies behind them in memory is changed.
func TestArgumentsStay(t *testing.T) {
	for _, text := range []string{"if", "g"} {
		of := sample(t)
		for k := range of.Nodes {
			if n := &of.Nodes[k]; n.Kind == api.IsCall {
				n.Text = text
			}
		}
		// Each list of kids, and that of the nodes, has spare room with a value in it.
		spare := append(of.Nodes, api.Node{Kind: 66, Text: "spare"})
		of.Nodes = spare[:len(spare)-1]
		var kids [][]int
		for k := range of.Nodes {
			n := &of.Nodes[k]
			more := append(slices.Clone(n.Kids), -7)
			kids = append(kids, more)
			n.Kids = more[:len(more)-1]
		}
		before := make([]api.Node, len(spare))
		copy(before, spare)
		var kidsBefore [][]int
		for _, list := range kids {
			kidsBefore = append(kidsBefore, slices.Clone(list))
		}
		first, f := print.Text(of)
		second, g := print.Text(of)
		if first != second || f != g || (f == api.Fault{}) != (text == "g") {
			t.Errorf("%q, %v; then %q, %v", first, f, second, g)
		}
		if !slices.EqualFunc(spare, before, alike) || !slices.EqualFunc(kids, kidsBefore, slices.Equal) {
			t.Errorf("%v became %v", before, spare)
		}
	}
}

// alike compares whole nodes.
func alike(a, b api.Node) bool {
	return a.Kind == b.Kind && a.Text == b.Text && a.N == b.N && a.Size == b.Size && a.At == b.At && slices.Equal(a.Kids, b.Kids)
}

// TestResultsAreNew: a text is not a part of a tree, even if it is the text of its only node.
func TestResultsAreNew(t *testing.T) {
	name := strings.Clone("name")
	got, f := print.Text(word(name))
	if f != (api.Fault{}) || got != name || unsafe.StringData(got) == unsafe.StringData(name) {
		t.Errorf("%q, %v: it may be no part of the tree", got, f)
	}
}

// TestOffsets: where the nodes stood does not matter.
func TestOffsets(t *testing.T) {
	of := sample(t)
	want, f := print.Text(of)
	if f != (api.Fault{}) {
		t.Fatal(f)
	}
	for k := range of.Nodes {
		of.Nodes[k].At = (k * 7919) % 2003
	}
	prints(t, of, want)
}
