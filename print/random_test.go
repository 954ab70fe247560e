package print_test

import (
	"math/rand"
	"strings"
	"testing"

	"turnery/api"
	"turnery/print"
	"turnery/tree"
)

// TestRandomTrees: a text is what R4.1 wants of it, or the tree needs one that is too large.
func TestRandomTrees(t *testing.T) {
	g := grower{rand.New(rand.NewSource(1))}
	for _, c := range []struct {
		maker func(int) api.Tree
		high  int
		count int
	}{{g.expr, 7, 12000}, {g.action, 8, 3000}, {g.inSwitch, 8, 1000}, {g.param, 1, 20}, {g.top, 8, 2000}, {g.unit, 8, 3000}} {
		printed, grouped := 0, 0
		for i := range c.count {
			of := c.maker(1 + i%c.high)
			if len(of.Nodes) > 200 {
				continue
			}
			text, f := print.Text(of)
			if f != (api.Fault{}) {
				if text != "" || f != (api.Fault{Code: api.ErrMuch}) {
					t.Fatalf("%v: %q, %v", of, text, f)
				}
				continue
			}
			if len(text) > api.MaxText-50 {
				continue
			}
			faithful(t, of, text)
			printed++
			if strings.Contains(text, "( (") || strings.HasPrefix(text, "( ") || strings.Contains(text, "= ( ") {
				grouped++
			}
		}
		if printed < c.count/2 || c.high > 1 && grouped < c.count/100 {
			t.Errorf("%d trees up to %d deep: %d have a text, %d of these groups", c.count, c.high, printed, grouped)
		}
	}
}

// TestSpoiltTrees: what is wrong with a tree is what tree.Check finds.
func TestSpoiltTrees(t *testing.T) {
	g := grower{rand.New(rand.NewSource(2))}
	codes := map[int]int{}
	for i := range 20000 {
		of := g.oneOf(g.expr, g.action, g.unit)(1 + i%6)
		for n := g.Intn(3); n >= 0; n-- {
			spoil(g, &of)
		}
		want := tree.Check(of)
		codes[want.Code]++
		text, f := print.Text(of)
		switch {
		case want != (api.Fault{}) && (f != want || text != ""):
			t.Fatalf("%v: %q, %v; want %v", of, text, f, want)
		case want == (api.Fault{}) && f != want && f != (api.Fault{Code: api.ErrMuch}):
			t.Fatalf("%v: %q, %v", of, text, f)
		}
	}
	for _, code := range []int{api.OK, api.ErrKind, api.ErrSize, api.ErrForm, api.ErrName, api.ErrText, api.ErrRange} {
		if codes[code] < 100 {
			t.Errorf("code %d only %d times", code, codes[code])
		}
	}
}

// spoil changes one thing about one node, or takes it out.
func spoil(g grower, of *api.Tree) {
	if len(of.Nodes) == 0 {
		return
	}
	k := g.Intn(len(of.Nodes))
	n := &of.Nodes[k]
	switch g.Intn(8) {
	case 0:
		n.Kind = g.Intn(43) - 1
	case 1:
		n.Text = []string{"", "x", "9", "+", "=", "&&", "--", "if", "abcdefghijklm"}[g.Intn(9)]
	case 2:
		n.N = g.Intn(7) - 2
	case 3:
		n.Size = g.Intn(5) - 2
	case 4:
		n.At = g.Intn(3) - 1
	case 5:
		n.Kids = append(n.Kids[:len(n.Kids):len(n.Kids)], k-g.Intn(4)+1)
	case 6:
		if len(n.Kids) > 0 {
			n.Kids = n.Kids[1:]
		}
	case 7:
		of.Nodes = append(of.Nodes[:k:k], of.Nodes[k+1:]...)
	}
}
