package parse

import (
	"math/rand"
	"strings"
	"testing"
	"unsafe"

	"turnery/api"
)

const sample = "int name[3] = {name + 1, f(2)}; int f(int x, int *y) { if (x) return -x; for (x = 0; x < 3; x++) y[x] += x ? x && 1 : 2; do ; while (x--); }"

// TestResultsAreNew: neither the text nor another list of kids is a part of a result.
func TestResultsAreNew(t *testing.T) {
	text := strings.Clone(sample)
	from := uintptr(unsafe.Pointer(unsafe.StringData(text)))
	one, _ := Unit(text)
	for _, n := range one.Nodes {
		at := uintptr(unsafe.Pointer(unsafe.StringData(n.Text)))
		if n.Text != "" && from <= at && at < from+uintptr(len(text)) {
			t.Errorf("the text %q of a node is a part of the source", n.Text)
		}
	}
	two, _ := Unit(text)
	three, _ := Unit(text)
	for k := range one.Nodes {
		kids := one.Nodes[k].Kids
		for i := range kids {
			kids[i] = -1
		}
		// What is behind the kids belongs to no other node, either.
		kids = kids[:cap(kids)]
		for i := range kids {
			kids[i] = -1
		}
		one.Nodes[k].Text = "changed"
		if k+1 < len(one.Nodes) && len(one.Nodes[k+1].Kids) > 0 && one.Nodes[k+1].Kids[0] < 0 {
			t.Fatalf("the kids of node %d changed with those of node %d", k+1, k)
		}
	}
	if len(two.Nodes) == 0 || !alike(two, three) {
		t.Error("a result changed with another")
	}
}

// TestAnyBytes: no text makes the parser panic, and there is a tree only where there is no fault.
func TestAnyBytes(t *testing.T) {
	r := rand.New(rand.NewSource(5))
	for i := range 30000 {
		b := []byte(sample)
		for n := r.Intn(4); n >= 0; n-- {
			b[r.Intn(len(b))] = byte(r.Intn(256))
		}
		if i%2 == 0 {
			b = b[r.Intn(len(b)):]
		}
		for _, parse := range []parser{Expr, Unit} {
			one, f := parse(string(b))
			two, g := parse(string(b))
			if f != g || !alike(one, two) || (f == api.Fault{}) != (len(one.Nodes) > 0) {
				t.Fatalf("%q: %d nodes, %v; then %d nodes, %v", b, len(one.Nodes), f, len(two.Nodes), g)
			}
		}
	}
}
