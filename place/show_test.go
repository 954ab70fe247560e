package place_test

import (
	"fmt"
	"math"
	"slices"
	"strings"
	"testing"

	"turnery/api"
	"turnery/parse"
	"turnery/place"
)

// unitOf is the tree of a unit that can be parsed.
func unitOf(t *testing.T, text string) api.Tree {
	t.Helper()
	of, f := parse.Unit(text)
	if f != (api.Fault{}) {
		t.Fatalf("%s: %v", text, f)
	}
	return of
}

// declared is the number of the node that declares a global or a function.
func declared(t *testing.T, of api.Tree, name string) int {
	t.Helper()
	for k, n := range of.Nodes {
		if (n.Kind == api.TopVar || n.Kind == api.TopFunc) && n.Text == name {
			return k
		}
	}
	t.Fatalf("%v: nothing is called %s", of, name)
	return 0
}

// fine tells the test if a unit has a fault.
func fine(t *testing.T, text string) {
	t.Helper()
	if f := place.Check(unitOf(t, text)); f != (api.Fault{}) {
		t.Errorf("%s: %v", text, f)
	}
}

// faulty tells the test if the fault of a unit is another one, or not at what has that name.
func faulty(t *testing.T, text string, code int, name string) {
	t.Helper()
	of := unitOf(t, text)
	fails(t, text, of, api.Fault{Code: code, At: declared(t, of, name)})
}

// fails tells the test if a function does not have just that fault of a tree, and nothing else to tell of it.
func fails(t *testing.T, what string, of api.Tree, want api.Fault) {
	t.Helper()
	if f := place.Check(of); f != want {
		t.Fatalf("%s: %v; want %v", what, f, want)
	}
	if list, f := place.Globals(of); len(list) != 0 || f != want {
		t.Fatalf("%s: globals %v, %v; want %v", what, list, f, want)
	}
	for _, k := range append(strangers(of), 0, len(of.Nodes)/2, len(of.Nodes)-1) {
		if first, f := place.Of(of, k); first != 0 || f != want {
			t.Fatalf("%s: %d, %v of node %d; want %v", what, first, f, k, want)
		}
	}
}

// strangers are numbers of nodes that a tree does not have.
func strangers(of api.Tree) []int {
	count := len(of.Nodes)
	return []int{-1, -2, -count, math.MinInt, count, count + 1, 2*count + 1, 1 << 32, math.MaxInt}
}

// placed is the globals of a unit, each with its first word: a 0, b 3. No other node has one.
func placed(t *testing.T, what string, of api.Tree) string {
	t.Helper()
	var list []string
	for k, n := range of.Nodes {
		if n.Kind != api.TopVar {
			noPlace(t, what, of, k)
			continue
		}
		first, f := place.Of(of, k)
		if f != (api.Fault{}) {
			t.Errorf("%s: %v of node %d", what, f, k)
		}
		list = append(list, fmt.Sprint(n.Text, " ", first))
	}
	return strings.Join(list, ", ")
}

// noPlace tells the test if a number is taken for that of a node with a word.
func noPlace(t *testing.T, what string, of api.Tree, k int) {
	t.Helper()
	if first, f := place.Of(of, k); first != 0 || f != (api.Fault{Code: api.ErrNone, At: -1}) {
		t.Errorf("%s: %d, %v of node %d", what, first, f, k)
	}
}

// at tells the test if the globals of a unit have other words.
func at(t *testing.T, text, want string) {
	t.Helper()
	fine(t, text)
	if got := placed(t, text, unitOf(t, text)); got != want {
		t.Errorf("%s: %s; want %s", text, got, want)
	}
}

// alike compares whole globals.
func alike(a, b api.Global) bool {
	return a.Name == b.Name && a.Size == b.Size && slices.Equal(a.Init, b.Init)
}

// has tells the test if the globals of a unit are others.
func has(t *testing.T, text string, want ...api.Global) {
	t.Helper()
	fine(t, text)
	if got, f := place.Globals(unitOf(t, text)); f != (api.Fault{}) || !slices.EqualFunc(got, want, alike) {
		t.Errorf("%s: %v, %v; want %v", text, got, f, want)
	}
}
