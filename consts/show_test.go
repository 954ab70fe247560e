package consts_test

import (
	"slices"
	"strconv"
	"strings"
	"testing"

	"turnery/api"
	"turnery/consts"
	"turnery/parse"
)

// exprOf is the tree of an expression that can be parsed.
func exprOf(t *testing.T, text string) api.Tree {
	t.Helper()
	of, f := parse.Expr(text)
	if f != (api.Fault{}) {
		t.Fatalf("%s: %v", text, f)
	}
	return of
}

// unitOf is the tree of a unit that can be parsed.
func unitOf(t *testing.T, text string) api.Tree {
	t.Helper()
	of, f := parse.Unit(text)
	if f != (api.Fault{}) {
		t.Fatalf("%s: %v", text, f)
	}
	return of
}

// shown is what Value tells of a node, as a word; "-": no constant, "?": no expression.
func shown(t *testing.T, of api.Tree, k int) string {
	t.Helper()
	value, ok, f := consts.Value(of, k)
	if !ok && value != 0 || ok && f != (api.Fault{}) {
		t.Fatalf("node %d of %v: %d, %v, %v", k, of, value, ok, f)
	}
	switch {
	case f == api.Fault{Code: api.ErrRange, At: -1}:
		return "?"
	case f != api.Fault{}:
		t.Fatalf("node %d of %v: %v", k, of, f)
	case !ok:
		return "-"
	}
	return strconv.Itoa(value)
}

// is tells the test if an expression has another value; "-": it shall have none.
func is(t *testing.T, text, want string) {
	t.Helper()
	of := exprOf(t, text)
	if got := shown(t, of, len(of.Nodes)-1); got != want {
		t.Errorf("%s: %s; want %s", text, got, want)
	}
}

// are tells the test if the nodes of an expression have other values.
func are(t *testing.T, text, want string) {
	t.Helper()
	each(t, text, exprOf(t, text), want)
}

// each is are for any tree.
func each(t *testing.T, what string, of api.Tree, want string) {
	t.Helper()
	var list []string
	for k := range of.Nodes {
		list = append(list, shown(t, of, k))
	}
	if got := strings.Join(list, " "); got != want {
		t.Errorf("%s: %s; want %s", what, got, want)
	}
}

// fine tells the test if a unit has a fault.
func fine(t *testing.T, text string) {
	t.Helper()
	if f := consts.Check(unitOf(t, text)); f != (api.Fault{}) {
		t.Errorf("%s: %v", text, f)
	}
}

// fails tells the test if a unit does not have just that fault.
func fails(t *testing.T, what string, of api.Tree, want api.Fault) {
	t.Helper()
	if f := consts.Check(of); f != want {
		t.Errorf("%s: %v; want %v", what, f, want)
	}
}

// faulty tells the test if the fault of a unit is another one, or at another node, than the one whose offset is that of the $.
func faulty(t *testing.T, marked string, code int) {
	t.Helper()
	text := strings.ReplaceAll(marked, "$", "")
	of := unitOf(t, text)
	at := -1
	for k, n := range of.Nodes {
		// Nodes of these kinds stand where another one stands, and none of them can be wrong.
		if n.At != strings.Index(marked, "$") || slices.Contains([]int{api.DoExpr, api.DoBlock, api.TopUnit, api.DoNothing}, n.Kind) {
			continue
		}
		if at >= 0 {
			t.Fatalf("%s: two nodes with a $: %d and %d", marked, at, k)
		}
		at = k
	}
	if at < 0 || len(text)+1 != len(marked) {
		t.Fatalf("%s: not one node with a $", marked)
	}
	fails(t, marked, of, api.Fault{Code: code, At: at})
}

// alike compares whole nodes.
func alike(a, b api.Node) bool {
	return a.Kind == b.Kind && a.Text == b.Text && a.N == b.N && a.Size == b.Size && a.At == b.At && slices.Equal(a.Kids, b.Kids)
}

// becomes tells the test if folding a tree comes to another one, offsets included.
func becomes(t *testing.T, what string, of, want api.Tree) {
	t.Helper()
	if got, f := consts.Fold(of); f != (api.Fault{}) || !slices.EqualFunc(got.Nodes, want.Nodes, alike) {
		t.Errorf("%s: %v, %v; want %v", what, got, f, want)
	}
}

// noFold tells the test if folding does not fail with just that fault.
func noFold(t *testing.T, what string, of api.Tree, want api.Fault) {
	t.Helper()
	if got, f := consts.Fold(of); f != want || len(got.Nodes) != 0 {
		t.Errorf("%s: %v, %v; want %v", what, got, f, want)
	}
}

// placed is the tree of an expression whose words have their offsets ahead of them: @3 x.
func placed(t *testing.T, marked string) api.Tree {
	t.Helper()
	text := ""
	offsets := map[int]int{}
	for _, word := range strings.Fields(marked) {
		if strings.HasPrefix(word, "@") {
			at, err := strconv.Atoi(word[1:])
			if err != nil {
				t.Fatal(err)
			}
			offsets[len(text)] = at
		} else {
			text += word + " "
		}
	}
	of := exprOf(t, text)
	if len(offsets) != len(of.Nodes) {
		t.Fatalf("%s: %d offsets, %d nodes", marked, len(offsets), len(of.Nodes))
	}
	for k := range of.Nodes {
		at, ok := offsets[of.Nodes[k].At]
		if !ok {
			t.Fatalf("%s: no offset of node %d", marked, k)
		}
		of.Nodes[k].At = at
	}
	return of
}

// folds tells the test if folding the tree of an expression comes to another one than that of the marked one.
func folds(t *testing.T, text, marked string) {
	t.Helper()
	becomes(t, text, exprOf(t, text), placed(t, marked))
}
