package scope_test

import (
	"fmt"
	"math/rand"
	"slices"
	"strings"
	"testing"

	"turnery/api"
	"turnery/parse"
	"turnery/scope"
	"turnery/tree"
)

// grower writes random units with the globals a to d and the functions f and g.
type grower struct {
	*rand.Rand
	rare int // one name of so many may be any
}

func (g grower) one(words string) string {
	list := strings.Fields(words)
	return list[g.Intn(len(list))]
}

// name is one of the words or, rarely, any.
func (g grower) name(words string) string {
	if g.Intn(g.rare) == 0 {
		return g.one("a b c d e x y f g h read print")
	}
	return g.one(words)
}

func (g grower) expr(high int) string {
	if high == 0 || g.Intn(4) == 0 {
		return g.name("a b c d")
	}
	e := func() string { return g.expr(high - 1) }
	switch g.Intn(8) {
	case 0:
		return g.name("f g") + "(" + e() + ", " + e() + ")"
	case 1:
		return g.name("read print") + "(" + e() + ")"
	case 2:
		return "(" + e() + ")[" + e() + "]"
	case 3:
		return g.one("- ! ~ * & ++ --") + "(" + e() + ")"
	case 4:
		return "(" + e() + " ? " + e() + " : " + e() + ")"
	case 5:
		return g.name("a b c d") + " " + g.one("= += <<=") + " " + e()
	case 6:
		return "3"
	}
	return "(" + e() + " " + g.one("+ - && || <") + " " + e() + ")"
}

func (g grower) local(high int) string {
	text := g.one("int int*") + " " + g.one("a b c d x y f read")
	if g.Intn(2) == 0 {
		text += " = " + g.expr(high)
	}
	return text + ";"
}

func (g grower) actions(high int) string {
	text := ""
	for n := g.Intn(4); n > 0; n-- {
		text += g.action(high) + " "
	}
	return text
}

func (g grower) action(high int) string {
	if high == 0 || g.Intn(3) == 0 {
		return g.local(1)
	}
	e := func() string { return g.expr(2) }
	s := func() string { return g.action(high - 1) }
	switch g.Intn(9) {
	case 0, 1:
		return "{ " + g.actions(high-1) + "}"
	case 2:
		return "if (" + e() + ") " + s() + " else " + s()
	case 3:
		return "while (" + e() + ") " + s()
	case 4:
		return "do " + s() + " while (" + e() + ");"
	case 5:
		return "for (" + g.local(1) + e() + "; " + e() + ") " + s()
	case 6:
		return "for (" + e() + "; ; ) { " + g.actions(high-1) + "}"
	case 7:
		return "switch (" + e() + ") { " + g.actions(high-1) + "case " + e() + ": " + g.actions(high-1) + "default: " + g.actions(high-1) + "}"
	}
	return e() + ";"
}

func (g grower) unit(high int) string {
	var tops []string
	for _, name := range []string{"a", "b", "c", "d"} {
		tops = append(tops, []string{"int " + name + ";", "int " + name + " = " + g.expr(2) + ";", "int " + name + "[3] = {" + g.expr(1) + ", " + g.expr(1) + "};"}[g.Intn(3)])
	}
	for _, name := range []string{"f", "g"} {
		tops = append(tops, "void "+name+"(int "+g.one("a b f x")+", int "+g.one("c d g y")+") { "+g.actions(high)+"}")
	}
	if g.Intn(g.rare) == 0 {
		tops = append(tops, "int "+g.one("a f e read print")+";")
	}
	if g.Intn(g.rare) == 0 {
		tops = append(tops, "void "+g.one("a f e read print")+"() {}")
	}
	g.Shuffle(len(tops), func(i, j int) { tops[i], tops[j] = tops[j], tops[i] })
	return strings.Join(tops, " ")
}

// agrees tells the test if the names of a unit are other than those of the model.
func agrees(t *testing.T, what string, of api.Tree) api.Fault {
	t.Helper()
	want, wantFault := modelOf(of).names()
	got, f := scope.Names(of)
	if f != wantFault || !slices.Equal(got, want) {
		t.Fatalf("%s: %v, %v; want %v, %v", what, got, f, want, wantFault)
	}
	return f
}

// TestRandomUnits compares with the model.
func TestRandomUnits(t *testing.T) {
	for _, rare := range []int{8, 40, 1000} {
		g := grower{rand.New(rand.NewSource(int64(rare))), rare}
		codes := map[int]int{}
		for i := range 6000 {
			text := g.unit(1 + i%5)
			of, f := parse.Unit(text)
			if f != (api.Fault{}) {
				if f.Code == api.ErrText {
					t.Fatalf("%s: %v", text, f)
				}
				continue
			}
			codes[agrees(t, text, of).Code]++
		}
		for _, code := range []int{api.OK, api.ErrName, api.ErrTwice, api.ErrNone} {
			if codes[code] < 100 && rare < 1000 || codes[code] == 0 {
				t.Errorf("of units of rarity %d %d have the code %d", rare, codes[code], code)
			}
		}
		if rare == 1000 && codes[api.OK] < 2000 {
			t.Errorf("only %d units without a fault", codes[api.OK])
		}
	}
}

// spoil changes one thing about one node, or takes it out.
func spoil(g grower, of *api.Tree) {
	if len(of.Nodes) == 0 {
		return
	}
	k := g.Intn(len(of.Nodes))
	n := &of.Nodes[k]
	switch g.Intn(7) {
	case 0:
		n.Kind = g.Intn(43) - 1
	case 1:
		n.Text = g.one("x read 9 + = && f if abcdefghijklm")
	case 2:
		n.N = g.Intn(7) - 2
	case 3:
		n.At = g.Intn(3) - 1
	case 4:
		n.Kids = append(n.Kids[:len(n.Kids):len(n.Kids)], k-g.Intn(4)+1)
	case 5:
		of.Nodes = of.Nodes[:k+1]
	case 6:
		of.Nodes = append(of.Nodes[:k:k], of.Nodes[k+1:]...)
	}
}

// TestSpoiltUnits: of a tree that is none, or no unit, there are no names, and none makes Names panic.
func TestSpoiltUnits(t *testing.T) {
	g := grower{rand.New(rand.NewSource(1)), 1000}
	codes := map[int]int{}
	for i := range 20000 {
		of, f := parse.Unit(g.unit(1 + i%3))
		if f != (api.Fault{}) {
			continue
		}
		for n := g.Intn(3); n >= 0; n-- {
			spoil(g, &of)
		}
		want := tree.Check(of)
		if want == (api.Fault{}) && of.Nodes[len(of.Nodes)-1].Kind != api.TopUnit {
			want = api.Fault{Code: api.ErrState}
		}
		codes[want.Code]++
		if want == (api.Fault{}) {
			agrees(t, fmt.Sprint(of), of)
		} else {
			fails(t, fmt.Sprint(of), of, want)
		}
	}
	for _, code := range []int{api.OK, api.ErrKind, api.ErrSize, api.ErrForm, api.ErrName, api.ErrText, api.ErrRange, api.ErrState} {
		if codes[code] < 50 {
			t.Errorf("code %d only %d times", code, codes[code])
		}
	}
}
