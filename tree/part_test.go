package tree

import (
	"math"
	"math/rand"
	"slices"
	"strings"
	"testing"
	"unsafe"

	"turnery/api"
)

// copyOf shares no list with t and has no spare room.
func copyOf(t api.Tree) api.Tree {
	nodes := slices.Clone(t.Nodes)
	for i := range nodes {
		nodes[i].Kids = slices.Clone(nodes[i].Kids)
	}
	return api.Tree{Nodes: nodes}
}

// alike compares offsets, too.
func alike(a, b api.Tree) bool {
	return slices.EqualFunc(a.Nodes, b.Nodes, func(x, y api.Node) bool {
		return x.Kind == y.Kind && x.Text == y.Text && x.N == y.N && x.Size == y.Size && x.At == y.At && slices.Equal(x.Kids, y.Kids)
	})
}

// modelPart builds the subtree of node k from those of its kids.
func modelPart(t api.Tree, k int) api.Tree {
	var parts []api.Tree
	for _, kid := range t.Nodes[k].Kids {
		parts = append(parts, modelPart(t, kid))
	}
	return join(t.Nodes[k], parts...)
}

func TestPartExamples(t *testing.T) {
	sum := api.Tree{Nodes: []api.Node{{Kind: api.IsNum, N: 1, At: 5}, {Kind: api.IsName, Text: "x", At: 9}, {Kind: api.IsTwo, Text: "+", Kids: []int{0, 1}, At: 7}}}
	twice := join(api.Node{Kind: api.IsOne, Text: "-", At: 3}, join(api.Node{Kind: api.IsSet, Text: "+=", At: 12}, word("y"), sum))
	for _, c := range []struct {
		of   api.Tree
		k    int
		want api.Tree
	}{
		{sum, 0, api.Tree{Nodes: sum.Nodes[:1]}},
		{sum, 1, api.Tree{Nodes: sum.Nodes[1:2]}},
		{sum, 2, sum},
		{twice, 0, word("y")},
		{twice, 2, api.Tree{Nodes: sum.Nodes[1:2]}},
		{twice, 3, sum},
		{twice, 4, join(api.Node{Kind: api.IsSet, Text: "+=", At: 12}, word("y"), sum)},
		{twice, 5, twice},
	} {
		if got, f := Part(c.of, c.k); f != (api.Fault{}) || !alike(got, c.want) {
			t.Errorf("Part(%v, %d) = %v, %v; want %v", c.of, c.k, got, f, c.want)
		}
	}
}

func TestPartModel(t *testing.T) {
	r := rand.New(rand.NewSource(2))
	trees := []api.Tree{sample(), nested(api.MaxDeep), wide(api.MaxNodes)}
	for _, w := range rows {
		for range 20 {
			if tr := randomTree(r, w.kind, 5); len(tr.Nodes) <= 100 {
				trees = append(trees, tr)
			}
		}
	}
	for _, tr := range trees {
		for k := range tr.Nodes {
			got, f := Part(tr, k)
			if want := modelPart(tr, k); f != (api.Fault{}) || !alike(got, want) {
				t.Fatalf("Part(%v, %d) = %v, %v; want %v", tr, k, got, f, want)
			}
			well(t, "a part", got)
		}
	}
}

func partFault(t *testing.T, tr api.Tree, k int, want api.Fault) {
	t.Helper()
	if got, f := Part(tr, k); f != want || len(got.Nodes) != 0 {
		t.Errorf("Part(%v, %d) = %v, %v; want %v and no tree", tr, k, got, f, want)
	}
}

func TestPartFaults(t *testing.T) {
	beyond := api.Fault{Code: api.ErrRange, At: -1}
	for _, tr := range []api.Tree{num(1), sample()} {
		for _, k := range []int{len(tr.Nodes), len(tr.Nodes) + 1, -1, math.MinInt, math.MaxInt} {
			partFault(t, tr, k, beyond)
		}
	}
	// The faults of Check come first, even where the part itself is in its form.
	for _, k := range []int{0, 1, 2, 9, -1} {
		partFault(t, api.Tree{}, k, api.Fault{Code: api.ErrMany})
		partFault(t, api.Tree{Nodes: []api.Node{{Kind: api.IsNum}, {Kind: api.IsName}}}, k, api.Fault{Code: api.ErrName, At: 1})
		partFault(t, api.Tree{Nodes: []api.Node{{Kind: api.IsNum}, {Kind: api.IsNum}}}, k, api.Fault{Code: api.ErrForm, At: 1})
		partFault(t, nested(api.MaxDeep+1), k, api.Fault{Code: api.ErrMuch})
		partFault(t, wide(api.MaxNodes+1), k, api.Fault{Code: api.ErrMany})
		partFault(t, api.Tree{Nodes: []api.Node{{Kind: 0}}}, k, api.Fault{Code: api.ErrKind})
	}
}

func TestPartIsNew(t *testing.T) {
	tr := join(api.Node{Kind: api.IsCall, Text: strings.Clone("name")}, word(strings.Clone("abc")), join(api.Node{Kind: api.IsTwo, Text: "+"}, num(1), word("b")))
	before := copyOf(tr)
	for k := range tr.Nodes {
		got, _ := Part(tr, k)
		by := k + 1 - len(got.Nodes)
		for i, n := range got.Nodes {
			of := tr.Nodes[by+i]
			if n.Text != "" && unsafe.StringData(n.Text) == unsafe.StringData(of.Text) {
				t.Errorf("Part %d shares the text of node %d", k, i)
			}
			for place := range n.Kids {
				n.Kids[place] = -5
			}
			clear(n.Kids[:cap(n.Kids)])
			got.Nodes[i] = api.Node{Kind: 77}
		}
		if !alike(tr, before) {
			t.Fatalf("Part %d shares memory: %v became %v", k, before, tr)
		}
	}
}

// TestPartListsApart: the lists of kids of one result do not lie in each other's spare room.
func TestPartListsApart(t *testing.T) {
	tr := sample()
	got, _ := Part(tr, len(tr.Nodes)-1)
	for i := range got.Nodes {
		got.Nodes[i].Kids = append(got.Nodes[i].Kids, 99)
	}
	for i, n := range got.Nodes {
		if want := append(slices.Clone(tr.Nodes[i].Kids), 99); !slices.Equal(n.Kids, want) {
			t.Errorf("kids of node %d: %v, want %v", i, n.Kids, want)
		}
	}
}

// TestArgumentsStay: neither nodes, nor kids, nor what lies behind them in memory is changed.
func TestArgumentsStay(t *testing.T) {
	full := sample()
	for i := range full.Nodes {
		full.Nodes[i].Kids = append(full.Nodes[i].Kids, 55)
	}
	spare := append(full.Nodes, api.Node{Kind: 66, Text: "spare"})
	use := api.Tree{Nodes: slices.Clone(spare)[:len(full.Nodes)]}
	for i := range use.Nodes {
		kids := slices.Clone(full.Nodes[i].Kids)
		use.Nodes[i].Kids = kids[:len(kids)-1]
	}
	Check(use)
	Same(use, use)
	for k := -1; k <= len(use.Nodes); k++ {
		Part(use, k)
	}
	all := use.Nodes[:len(spare)]
	for i := range use.Nodes {
		all[i].Kids = all[i].Kids[:len(all[i].Kids)+1]
	}
	if !alike(api.Tree{Nodes: all}, api.Tree{Nodes: spare}) {
		t.Errorf("%v became %v", spare, all)
	}
}
