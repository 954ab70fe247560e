package tree

import (
	"math/rand"
	"testing"

	"turnery/api"
)

func same(t *testing.T, a, b api.Tree, want bool) {
	t.Helper()
	for range 2 {
		if got, f := Same(a, b); got != want || f != (api.Fault{}) {
			t.Fatalf("Same(%v, %v) = %v, %v; want %v", a, b, got, f, want)
		}
		a, b = b, a
	}
}

func TestSameExamples(t *testing.T) {
	sum := func(sign, name string, n, at int) api.Tree {
		return join(api.Node{Kind: api.IsTwo, Text: sign, At: at}, num(n), word(name))
	}
	same(t, sum("+", "x", 1, 0), sum("+", "x", 1, 0), true)
	same(t, sum("+", "x", 1, 0), sum("+", "x", 1, 9), true)
	same(t, sum("+", "x", 1, 0), sum("-", "x", 1, 0), false)
	same(t, sum("+", "x", 1, 0), sum("+", "y", 1, 0), false)
	same(t, sum("+", "x", 1, 0), sum("+", "x", 2, 0), false)
	same(t, num(0), num(0), true)
	same(t, num(0), nested(2), false)
	same(t, small(api.DoBreak), small(api.DoNext), false)
	same(t, small(api.DoBreak), small(api.DoBreak), true)
	same(t, sample(), sample(), true)
	same(t, sample(), small(api.TopUnit), false)
	same(t, wide(api.MaxNodes), wide(api.MaxNodes), true)
	same(t, wide(api.MaxNodes), wide(api.MaxNodes-1), false)
	same(t, nested(api.MaxDeep), nested(api.MaxDeep), true)
}

func TestSameFields(t *testing.T) {
	list := func(n api.Node) api.Tree { return join(n, num(1)) }
	three := api.Node{Kind: api.TopVar, Text: "a", N: api.TypeArray, Size: 3}
	four := api.Node{Kind: api.TopVar, Text: "a", N: api.TypeArray, Size: 4}
	same(t, list(three), list(three), true)
	same(t, list(three), list(four), false)
	same(t, join(api.Node{Kind: api.TopVar, Text: "a", N: api.TypeInt}), join(api.Node{Kind: api.TopVar, Text: "a", N: api.TypePtr}), false)
	same(t, join(api.Node{Kind: api.IsStep, Text: "++"}, num(1)), join(api.Node{Kind: api.IsStep, Text: "++", N: 1}, num(1)), false)
	same(t, join(api.Node{Kind: api.IsName, Text: "f"}), join(api.Node{Kind: api.IsCall, Text: "f"}), false)
	// nil and an empty list of kids are the same.
	same(t, num(3), api.Tree{Nodes: []api.Node{{Kind: api.IsNum, N: 3, Kids: []int{}}}}, true)
}

// TestSameKids: the same nodes in the same order, with kids shared out in another way.
func TestSameKids(t *testing.T) {
	call := api.Node{Kind: api.IsCall, Text: "f"}
	same(t, join(call, join(call, num(1)), join(call)), join(call, join(call, num(1)), join(call)), true)
	same(t, join(call, num(1), join(call, num(2))), join(call, join(call, num(1), num(2))), false)
	same(t, join(call, num(1), join(call), join(call)), join(call, join(call, num(1)), join(call)), false)
	same(t, join(call, num(1), join(call)), join(call, join(call, num(1))), false)
}

func TestSameRandom(t *testing.T) {
	r := rand.New(rand.NewSource(3))
	differ := 0
	for range 50000 {
		a := randomTree(r, rows[r.Intn(len(rows))].kind, 4)
		b := copyOf(a)
		for i := range b.Nodes {
			b.Nodes[i].At = r.Intn(3000)
		}
		spoil(r, &b)
		if len(a.Nodes) > 100 || modelCheck(b) != (api.Fault{}) {
			continue
		}
		c := copyOf(b)
		for i := range c.Nodes {
			c.Nodes[i].At = 0
			if i < len(a.Nodes) {
				c.Nodes[i].At = a.Nodes[i].At
			}
		}
		want := alike(a, c)
		if !want {
			differ++
		}
		same(t, a, b, want)
	}
	if differ < 500 {
		t.Errorf("only %d pairs of trees that differ", differ)
	}
}

func TestSameFaults(t *testing.T) {
	bad := func(code int) api.Tree {
		switch code {
		case api.ErrMany:
			return api.Tree{}
		case api.ErrKind:
			return api.Tree{Nodes: []api.Node{{Kind: 9}}}
		case api.ErrSize:
			return api.Tree{Nodes: []api.Node{{Kind: api.IsOne, Text: "-"}}}
		case api.ErrForm:
			return api.Tree{Nodes: []api.Node{{Kind: api.IsNum}, {Kind: api.IsNum}}}
		case api.ErrName:
			return word("9")
		case api.ErrText:
			return join(api.Node{Kind: api.IsNum, Text: "1"})
		case api.ErrRange:
			return num(-1)
		}
		return nested(api.MaxDeep + 1)
	}
	codes := []int{api.ErrMany, api.ErrKind, api.ErrSize, api.ErrForm, api.ErrName, api.ErrText, api.ErrRange, api.ErrMuch}
	for _, x := range codes {
		a := bad(x)
		want := Check(a)
		if want.Code != x {
			t.Fatalf("code %d: %v", x, want)
		}
		others := []api.Tree{num(1)}
		for _, y := range codes {
			others = append(others, bad(y))
		}
		for i, b := range others {
			if is, f := Same(a, b); is || f != want {
				t.Errorf("Same(%v, %v) = %v, %v; want %v", a, b, is, f, want)
			}
			if i > 0 {
				continue
			}
			if is, f := Same(b, a); is || f != want {
				t.Errorf("Same(%v, %v) = %v, %v; want %v", b, a, is, f, want)
			}
		}
	}
}
