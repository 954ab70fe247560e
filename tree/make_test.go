package tree

import (
	"math/rand"

	"turnery/api"
)

// join puts trees one behind the other, and n, whose kids they become, behind them.
func join(n api.Node, parts ...api.Tree) api.Tree {
	var t api.Tree
	n.Kids = nil
	for _, p := range parts {
		by := len(t.Nodes)
		for _, m := range p.Nodes {
			var kids []int
			for _, kid := range m.Kids {
				kids = append(kids, kid+by)
			}
			m.Kids = kids
			t.Nodes = append(t.Nodes, m)
		}
		n.Kids = append(n.Kids, len(t.Nodes)-1)
	}
	t.Nodes = append(t.Nodes, n)
	return t
}

// plain is a node of a kind with a text and numbers that the kind allows.
func plain(kind int) api.Node {
	n := api.Node{Kind: kind}
	r, _ := rowOf(kind)
	n.Text = r.texts[0]
	switch kind {
	case api.TopVar, api.TopFunc, api.TopParam, api.DoVar:
		n.N = api.TypeInt
	}
	return n
}

// array is the node of an array, to which any number of kids up to MaxWords may belong.
func array() api.Node {
	return api.Node{Kind: api.TopVar, Text: "name", N: api.TypeArray, Size: api.MaxWords}
}

func num(n int) api.Tree { return join(api.Node{Kind: api.IsNum, N: n}) }

func word(text string) api.Tree { return join(api.Node{Kind: api.IsName, Text: text}) }

// small is the smallest tree of a kind.
func small(kind int) api.Tree {
	e, b, none := num(1), join(plain(api.DoBlock)), join(plain(api.DoNothing))
	switch kind {
	case api.TopFunc:
		return join(plain(kind), b)
	case api.DoExpr, api.DoSwitch, api.DoCase, api.IsOne, api.IsStep:
		return join(plain(kind), e)
	case api.DoIf, api.DoWhile:
		return join(plain(kind), e, b)
	case api.DoUntil:
		return join(plain(kind), b, e)
	case api.DoFor:
		return join(plain(kind), none, none, none, b)
	case api.IsIndex, api.IsTwo, api.IsBoth, api.IsSet:
		return join(plain(kind), e, e)
	case api.IsPick:
		return join(plain(kind), e, e, e)
	}
	return join(plain(kind))
}

// nested are so many nodes, one within the other.
func nested(count int) api.Tree {
	t := num(0)
	for ; count > 1; count-- {
		t = join(api.Node{Kind: api.IsOne, Text: "-"}, t)
	}
	return t
}

// wide are so many nodes, all but the last one side by side.
func wide(count int) api.Tree {
	t := api.Tree{Nodes: make([]api.Node, count)}
	last := &t.Nodes[count-1]
	*last = api.Node{Kind: api.IsCall, Text: "f"}
	for i := range count - 1 {
		t.Nodes[i] = api.Node{Kind: api.IsNum, N: i}
		last.Kids = append(last.Kids, i)
	}
	return t
}

// sample is `int a[3] = {1, 2}; int f(int *p) { for (int i = 0; i < 3; i++) { p[i] = -1; } return 0; }`.
func sample() api.Tree {
	i, p := word("i"), word("p")
	a := join(api.Node{Kind: api.TopVar, Text: "a", N: api.TypeArray, Size: 3, At: 4}, num(1), num(2))
	start := join(api.Node{Kind: api.DoVar, Text: "i", N: api.TypeInt, At: 46}, num(0))
	less := join(api.Node{Kind: api.IsTwo, Text: "<", At: 55}, i, num(3))
	next := join(api.Node{Kind: api.DoExpr, At: 60}, join(api.Node{Kind: api.IsStep, Text: "++", N: 1, At: 61}, i))
	place := join(api.Node{Kind: api.IsIndex, At: 69}, p, i)
	set := join(api.Node{Kind: api.IsSet, Text: "=", At: 73}, place, join(api.Node{Kind: api.IsOne, Text: "-", At: 75}, num(1)))
	body := join(api.Node{Kind: api.DoBlock, At: 66}, join(api.Node{Kind: api.DoExpr, At: 68}, set))
	loop := join(api.Node{Kind: api.DoFor, At: 37}, start, less, next, body)
	all := join(api.Node{Kind: api.DoBlock, At: 35}, loop, join(api.Node{Kind: api.DoReturn, At: 81}, num(0)))
	f := join(api.Node{Kind: api.TopFunc, Text: "f", N: api.TypeInt, At: 25}, join(api.Node{Kind: api.TopParam, Text: "p", N: api.TypePtr, At: 32}), all)
	return join(api.Node{Kind: api.TopUnit}, a, f)
}

// randomKids writes letters of kids that a kind allows.
func randomKids(r *rand.Rand, kind int) string {
	some := func(letters string) string {
		s := ""
		for n := r.Intn(4); n > 0; n-- {
			k := r.Intn(len(letters))
			s += letters[k : k+1]
		}
		return s
	}
	one := func(letters string) string {
		k := r.Intn(len(letters))
		return letters[k : k+1]
	}
	switch kind {
	case api.TopUnit:
		return some("VF")
	case api.TopVar, api.IsCall:
		return some("E")
	case api.TopFunc:
		return some("P") + "B"
	case api.DoBlock:
		return some("Bvxa0")
	case api.DoIf:
		return []string{"EB", "EBB"}[r.Intn(2)]
	case api.DoWhile:
		return "EB"
	case api.DoUntil:
		return "BE"
	case api.DoFor:
		return one("vx0") + one("E0") + one("x0") + "B"
	case api.DoSwitch:
		return "E" + some("Bvxa0cd")
	case api.DoVar, api.DoReturn:
		return []string{"", "E"}[r.Intn(2)]
	case api.DoExpr, api.DoCase, api.IsOne, api.IsStep:
		return "E"
	case api.IsIndex, api.IsTwo, api.IsBoth, api.IsSet:
		return "EE"
	case api.IsPick:
		return "EEE"
	}
	return ""
}

// kindOf is a random kind that a letter stands for: a leaf, if it shall be low.
func kindOf(r *rand.Rand, c byte, low bool) int {
	if c == 'E' && low {
		return api.IsNum + r.Intn(2)
	}
	if c == 'a' && low {
		return api.DoBreak + r.Intn(2)
	}
	for {
		if kind := rows[r.Intn(len(rows))].kind; letter(kind)[0] == c {
			return kind
		}
	}
}

// randomTree is a tree of a kind that is in its form; high bounds how many nodes are nested.
func randomTree(r *rand.Rand, kind, high int) api.Tree {
	w, _ := rowOf(kind)
	n := api.Node{Kind: kind, Text: w.texts[r.Intn(len(w.texts))], At: r.Intn(9)}
	if w.named {
		n.Text = []string{"x", "int", "_9", "Zabcdefghijk"}[r.Intn(4)]
	}
	var parts []api.Tree
	for _, c := range []byte(randomKids(r, kind)) {
		if kind == api.DoBlock && high < 3 {
			break
		}
		parts = append(parts, randomTree(r, kindOf(r, c, high < 3), high-1))
	}
	switch kind {
	case api.TopVar:
		n.N, n.Size = api.TypeArray, max(1, len(parts)+r.Intn(2))
		if len(parts) < 2 && r.Intn(2) == 0 {
			n.N, n.Size = api.TypeInt+r.Intn(2), 0
		}
	case api.TopFunc:
		n.N = r.Intn(3)
	case api.TopParam, api.DoVar:
		n.N = api.TypeInt + r.Intn(2)
	case api.IsNum, api.IsStep:
		n.N = r.Intn(2)
	}
	return join(n, parts...)
}

// spoil changes one thing about one node, or the list of nodes.
func spoil(r *rand.Rand, t *api.Tree) {
	if len(t.Nodes) == 0 {
		return
	}
	k := r.Intn(len(t.Nodes))
	n := &t.Nodes[k]
	near := func() int { return k - r.Intn(5) + 1 }
	switch r.Intn(12) {
	case 0:
		n.Kind = r.Intn(44) - 1
	case 1:
		n.Text = []string{"", "x", "9x", "+", "-", "=", "&&", "++", "abcdefghijklm", "é"}[r.Intn(10)]
	case 2:
		n.N = r.Intn(7) - 2
	case 3:
		n.Size = r.Intn(6) - 2
	case 4:
		n.At = r.Intn(3) - 1
	case 5:
		n.Kids = append(n.Kids, near())
	case 6, 7:
		if len(n.Kids) > 0 {
			n.Kids[r.Intn(len(n.Kids))] = near()
		}
	case 8:
		if len(n.Kids) > 0 {
			n.Kids = n.Kids[1:]
		}
	case 9:
		if len(n.Kids) > 1 {
			n.Kids[0], n.Kids[1] = n.Kids[1], n.Kids[0]
		}
	case 10:
		t.Nodes = append(t.Nodes[:k:k], t.Nodes[k+1:]...)
	case 11:
		t.Nodes = append([]api.Node{{Kind: api.IsNum}}, t.Nodes...)
	}
}
