package tree

import (
	"fmt"
	"math"
	"math/rand"
	"slices"
	"strings"
	"testing"

	"turnery/api"
)

var wrongNumbers = []int{math.MinInt, -2, -1, 0, 1, 2, 3, 4, 5, 199, 200, 201, math.MaxInt}

// checks tells the test what is wrong with t, which shall be this.
func checks(t *testing.T, what string, tr api.Tree, want api.Fault) {
	t.Helper()
	if got := Check(tr); got != want {
		// One is enough: some tests try thousands of trees.
		t.Fatalf("%s: %v; want %v; of %.2000s", what, got, want, fmt.Sprintf("%+v", tr))
	}
}

func well(t *testing.T, what string, tr api.Tree) {
	t.Helper()
	checks(t, what, tr, api.Fault{})
}

// wrong is for a tree whose last node is what is wrong.
func wrong(t *testing.T, what string, tr api.Tree, code int) {
	t.Helper()
	checks(t, what, tr, api.Fault{Code: code, At: len(tr.Nodes) - 1})
}

func TestCheckExamples(t *testing.T) {
	well(t, "1 + x", api.Tree{Nodes: []api.Node{{Kind: api.IsNum, N: 1}, {Kind: api.IsName, Text: "x"}, {Kind: api.IsTwo, Text: "+", Kids: []int{0, 1}}}})
	well(t, "a unit", sample())
	well(t, "the empty unit", small(api.TopUnit))
	well(t, "empty kids", api.Tree{Nodes: []api.Node{{Kind: api.IsNum, Kids: []int{}}}})
	for _, r := range rows {
		well(t, "smallest of "+letter(r.kind), small(r.kind))
	}
}

func TestCheckCounts(t *testing.T) {
	checks(t, "nil", api.Tree{}, api.Fault{Code: api.ErrMany})
	checks(t, "no nodes", api.Tree{Nodes: []api.Node{}}, api.Fault{Code: api.ErrMany})
	well(t, "one node", num(0))
	well(t, "as many nodes as may be", wide(api.MaxNodes))
	checks(t, "a node too many", wide(api.MaxNodes+1), api.Fault{Code: api.ErrMany})
	// The count comes ahead of what is wrong with a node.
	checks(t, "too many bad nodes", api.Tree{Nodes: make([]api.Node, api.MaxNodes+1)}, api.Fault{Code: api.ErrMany})
	checks(t, "many bad nodes", api.Tree{Nodes: make([]api.Node, api.MaxNodes)}, api.Fault{Code: api.ErrKind})
}

func TestCheckDepth(t *testing.T) {
	well(t, "as deep as may be", nested(api.MaxDeep))
	checks(t, "too deep", nested(api.MaxDeep+1), api.Fault{Code: api.ErrMuch})
	for _, first := range []bool{true, false} {
		parts := []api.Tree{nested(api.MaxDeep - 1), num(0)}
		deeper := []api.Tree{nested(api.MaxDeep), num(0)}
		if !first {
			slices.Reverse(parts)
			slices.Reverse(deeper)
		}
		well(t, "deep beside a leaf", join(plain(api.IsTwo), parts...))
		checks(t, "too deep beside a leaf", join(plain(api.IsTwo), deeper...), api.Fault{Code: api.ErrMuch})
	}
	// That all nodes are of one tree comes ahead of the depth.
	two := nested(api.MaxDeep + 1)
	two.Nodes = append([]api.Node{{Kind: api.IsNum}}, two.Nodes...)
	for i := 2; i < len(two.Nodes); i++ {
		two.Nodes[i].Kids = []int{i - 1}
	}
	wrong(t, "too deep and not of one tree", two, api.ErrForm)
	deep := nested(api.MaxDeep + 2)
	deep.Nodes[api.MaxDeep+1].At = -1
	wrong(t, "too deep and a wrong offset", deep, api.ErrRange)
}

func TestCheckKinds(t *testing.T) {
	for kind := -50; kind <= 200; kind++ {
		if _, known := rowOf(kind); !known {
			wrong(t, "kind alone", api.Tree{Nodes: []api.Node{{Kind: kind}}}, api.ErrKind)
			wrong(t, "kind with kids", join(api.Node{Kind: kind, Text: "?", N: -1, Size: -1, At: -1}, num(0)), api.ErrKind)
		}
	}
	for _, kind := range []int{math.MinInt, math.MaxInt} {
		wrong(t, "kind", api.Tree{Nodes: []api.Node{{Kind: kind, Kids: []int{0}}}}, api.ErrKind)
	}
}

// TestCheckKids tries kids of all kinds, and many numbers of them, below nodes of all kinds.
func TestCheckKids(t *testing.T) {
	var all, leaves []int
	for _, r := range rows {
		all = append(all, r.kind)
		if letter(r.kind) != "a" && letter(r.kind) != "E" {
			leaves = append(leaves, r.kind)
		}
	}
	leaves = append(leaves, api.DoNext, api.IsName)
	for _, r := range rows {
		tryKids(t, r, nil, 2, all)
		tryKids(t, r, nil, 3, leaves)
	}
	loop, _ := rowOf(api.DoFor)
	tryKids(t, loop, nil, 5, []int{api.TopParam, api.DoBlock, api.DoVar, api.DoExpr, api.DoNothing, api.DoCase, api.IsName})
}

// tryKids tries parts, and up to more of these kinds behind them, as kids.
func tryKids(t *testing.T, r row, kinds []int, more int, from []int) {
	n := plain(r.kind)
	if r.kind == api.TopVar {
		n = array()
	}
	letters := ""
	var parts []api.Tree
	for _, kind := range kinds {
		letters += letter(kind)
		parts = append(parts, small(kind))
	}
	tr := join(n, parts...)
	what := "kind with kids " + letters
	switch {
	case !r.shape.MatchString(letters):
		wrong(t, what, tr, api.ErrSize)
	case !r.kids.MatchString(letters):
		wrong(t, what, tr, api.ErrForm)
	default:
		well(t, what, tr)
	}
	if more == 0 {
		return
	}
	for _, kind := range from {
		tryKids(t, r, append(kinds[:len(kinds):len(kinds)], kind), more-1, from)
	}
}

// TestCheckSizes has numbers of kids that no tree has room for, or that are far from what is allowed.
func TestCheckSizes(t *testing.T) {
	for _, r := range rows {
		for _, count := range []int{1, 2, 3, 4, 5, 6, 199, 200, 201, 599, 600, 601, 5000} {
			n := plain(r.kind)
			n.Kids = make([]int, count)
			code := api.ErrForm
			if !r.shape.MatchString(strings.Repeat("E", count)) {
				code = api.ErrSize
			}
			wrong(t, "kids that are not there", api.Tree{Nodes: []api.Node{n}}, code)
		}
	}
}

func TestCheckPlaces(t *testing.T) {
	two := func(a, b int) api.Tree {
		return api.Tree{Nodes: []api.Node{{Kind: api.IsNum}, {Kind: api.IsOne, Text: "-", Kids: []int{0}}, {Kind: api.IsNum}, {Kind: api.IsTwo, Text: "+", Kids: []int{a, b}}}}
	}
	well(t, "kids in place", two(1, 2))
	for a := -2; a < 6; a++ {
		for b := -2; b < 6; b++ {
			if a != 1 || b != 2 {
				wrong(t, "kids out of place", two(a, b), api.ErrForm)
			}
		}
	}
	for _, kid := range []int{math.MinInt, -1, 0, 1, math.MaxInt} {
		wrong(t, "a kid of a first node", api.Tree{Nodes: []api.Node{{Kind: api.IsOne, Text: "-", Kids: []int{kid}}}}, api.ErrForm)
		wrong(t, "a kid ahead of the first node", api.Tree{Nodes: []api.Node{{Kind: api.IsNum}, {Kind: api.IsTwo, Text: "-", Kids: []int{kid, 0}}}}, api.ErrForm)
		wrong(t, "a kid of an empty list", api.Tree{Nodes: []api.Node{{Kind: api.DoBlock, Kids: []int{kid}}}}, api.ErrForm)
	}
}

func TestCheckNotOneTree(t *testing.T) {
	leaf := api.Node{Kind: api.IsNum}
	one := func(kid int) api.Node { return api.Node{Kind: api.IsOne, Text: "-", Kids: []int{kid}} }
	wrong(t, "two leaves", api.Tree{Nodes: []api.Node{leaf, leaf}}, api.ErrForm)
	wrong(t, "a leaf ahead", api.Tree{Nodes: []api.Node{leaf, leaf, one(1)}}, api.ErrForm)
	wrong(t, "a leaf behind", api.Tree{Nodes: []api.Node{leaf, one(0), leaf}}, api.ErrForm)
	wrong(t, "two units", api.Tree{Nodes: []api.Node{{Kind: api.TopUnit}, {Kind: api.TopUnit}}}, api.ErrForm)
	// What is wrong with the last node by itself comes first.
	wrong(t, "two leaves, the last one wrong", api.Tree{Nodes: []api.Node{leaf, {Kind: api.IsNum, N: -1}}}, api.ErrRange)
}

func TestCheckNames(t *testing.T) {
	good := strings.Fields("a Z _ z9 _0 int return read main abcdefghijkl ABCDEFGHIJKL ____________ a00000000000")
	bad := []string{"", "0", "9a", "abcdefghijklm", "_____________", "a b", " a", "a ", "a-b", "+", "a.", "é", "aé", "a\x00", "a\n", "@", "[", "`", "{", "a/", "a:", "a@", "\xff", strings.Repeat("a", 5000)}
	for _, r := range rows {
		tr := small(r.kind)
		last := &tr.Nodes[len(tr.Nodes)-1]
		for _, text := range slices.Concat(good, bad) {
			if last.Text = text; !r.named {
				continue
			}
			if slices.Contains(good, text) {
				well(t, "name "+text, tr)
			} else {
				wrong(t, "name "+text, tr, api.ErrName)
			}
		}
	}
	for c := range 256 {
		tr := word("a" + string([]byte{byte(c)}))
		if modelName.MatchString(tr.Nodes[0].Text) {
			well(t, "byte of a name", tr)
		} else {
			wrong(t, "byte of a name", tr, api.ErrName)
		}
	}
}

func TestCheckTexts(t *testing.T) {
	texts := append(strings.Fields("a 0 int , ; ( ? : ++ -- ~= <> === &&& ** <<< ^^ -> . @"), "", " ", "+ ", " +", "-\n", "<< =")
	for _, r := range rows {
		texts = append(texts, r.texts...)
	}
	for _, r := range rows {
		if r.named {
			continue
		}
		for _, text := range texts {
			tr := small(r.kind)
			tr.Nodes[len(tr.Nodes)-1].Text = text
			if slices.Contains(r.texts, text) {
				well(t, "text "+text, tr)
			} else {
				wrong(t, "text "+text, tr, api.ErrText)
			}
		}
	}
}

func TestCheckNumbers(t *testing.T) {
	for _, r := range rows {
		for _, n := range wrongNumbers {
			for _, size := range wrongNumbers {
				tr := small(r.kind)
				last := &tr.Nodes[len(tr.Nodes)-1]
				last.N, last.Size = n, size
				if modelNumbers(*last) {
					well(t, "numbers", tr)
				} else {
					wrong(t, "numbers", tr, api.ErrRange)
				}
			}
		}
		tr := small(r.kind)
		last := &tr.Nodes[len(tr.Nodes)-1]
		last.At = math.MaxInt
		well(t, "a large offset", tr)
		for _, at := range []int{-1, math.MinInt} {
			last.At = at
			wrong(t, "offset", tr, api.ErrRange)
		}
	}
}

func TestCheckVars(t *testing.T) {
	values := func(n api.Node, count int) api.Tree {
		parts := slices.Repeat([]api.Tree{num(7)}, count)
		return join(n, parts...)
	}
	for _, typ := range []int{api.TypeInt, api.TypePtr} {
		n := api.Node{Kind: api.TopVar, Text: "a", N: typ}
		well(t, "no value", values(n, 0))
		well(t, "a value", values(n, 1))
		wrong(t, "two values", values(n, 2), api.ErrRange)
		wrong(t, "as many values as words", values(n, api.MaxWords), api.ErrRange)
		wrong(t, "more values than words", values(n, api.MaxWords+1), api.ErrSize)
	}
	for _, size := range []int{1, 2, 3, api.MaxWords - 1, api.MaxWords} {
		n := api.Node{Kind: api.TopVar, Text: "a", N: api.TypeArray, Size: size}
		well(t, "no values", values(n, 0))
		well(t, "a value", values(n, 1))
		well(t, "all values", values(n, size))
		code := api.ErrRange
		if size == api.MaxWords {
			code = api.ErrSize
		}
		wrong(t, "a value too many", values(n, size+1), code)
	}
	for _, size := range []int{math.MinInt, -1, 0, api.MaxWords + 1, math.MaxInt} {
		wrong(t, "size", values(api.Node{Kind: api.TopVar, Text: "a", N: api.TypeArray, Size: size}, 0), api.ErrRange)
	}
	for _, typ := range []int{math.MinInt, -1, api.TypeVoid, api.TypeFunc, 5, math.MaxInt} {
		wrong(t, "type", values(api.Node{Kind: api.TopVar, Text: "a", N: typ}, 0), api.ErrRange)
		wrong(t, "type", values(api.Node{Kind: api.TopVar, Text: "a", N: typ, Size: 3}, 1), api.ErrRange)
	}
}

// TestCheckOrder has nodes with all that can be wrong and mends them step by step.
func TestCheckOrder(t *testing.T) {
	for _, kind := range []int{api.IsTwo, api.TopVar, api.DoVar, api.IsCall, api.DoIf} {
		good := small(kind)
		if kind == api.TopVar || kind == api.DoVar || kind == api.IsCall {
			good = join(plain(kind), num(1))
		}
		n := &good.Nodes[len(good.Nodes)-1]
		mended := *n
		n.Kind, n.Text, n.N, n.Size, n.At = 99, "?", -1, -1, -1
		n.Kids = make([]int, api.MaxWords+1)
		wrong(t, "all", good, api.ErrKind)
		if n.Kind = mended.Kind; kind != api.IsCall {
			wrong(t, "all but the kind", good, api.ErrSize)
		}
		n.Kids = slices.Clone(mended.Kids)
		n.Kids[0]--
		wrong(t, "place, text and numbers", good, api.ErrForm)
		n.Kids = mended.Kids
		code := api.ErrText
		if r, _ := rowOf(kind); r.named {
			code = api.ErrName
		}
		wrong(t, "text and numbers", good, code)
		n.Text = mended.Text
		wrong(t, "numbers", good, api.ErrRange)
		n.N = mended.N
		wrong(t, "size and offset", good, api.ErrRange)
		n.Size = mended.Size
		wrong(t, "offset", good, api.ErrRange)
		n.At = mended.At
		well(t, "nothing", good)
	}
}

// TestCheckFirstNode: of two nodes the first one counts, whatever is wrong with the second.
func TestCheckFirstNode(t *testing.T) {
	bad := []api.Node{
		{Kind: 5}, {Kind: api.IsNum, Kids: []int{0}}, {Kind: api.IsOne, Text: "-", Kids: []int{7}},
		{Kind: api.IsName, Text: "0"}, {Kind: api.IsNum, Text: "x"}, {Kind: api.IsNum, N: -1},
	}
	codes := []int{api.ErrKind, api.ErrSize, api.ErrForm, api.ErrName, api.ErrText, api.ErrRange}
	for i, a := range bad {
		for _, b := range bad {
			leaf := api.Node{Kind: api.IsNum}
			checks(t, "two bad nodes", api.Tree{Nodes: []api.Node{leaf, leaf, a, leaf, b}}, api.Fault{Code: codes[i], At: 2})
		}
		checks(t, "a first bad node", api.Tree{Nodes: []api.Node{a, {Kind: api.IsNum}}}, api.Fault{Code: codes[i]})
	}
}

func TestCheckModel(t *testing.T) {
	r := rand.New(rand.NewSource(1))
	seen := map[int]int{}
	for range 60000 {
		tr := randomTree(r, rows[r.Intn(len(rows))].kind, 2+r.Intn(5))
		if len(tr.Nodes) > 80 {
			continue
		}
		well(t, "a random tree", tr)
		for n := r.Intn(4); n > 0; n-- {
			spoil(r, &tr)
		}
		want := modelCheck(tr)
		seen[want.Code]++
		checks(t, "a spoilt tree", tr, want)
	}
	for _, code := range []int{api.OK, api.ErrMany, api.ErrKind, api.ErrSize, api.ErrForm, api.ErrName, api.ErrText, api.ErrRange} {
		if seen[code] < 50 {
			t.Errorf("only %d trees with code %d", seen[code], code)
		}
	}
}
