package consts_test

import (
	"fmt"
	"math/big"
	"math/rand"
	"strings"
	"testing"

	"turnery/api"
	"turnery/consts"
	"turnery/parse"
	"turnery/tree"
	"turnery/types"
)

// grower writes random expressions and units in the test's world.
type grower struct {
	*rand.Rand
	rare int // one part of so many is not constant, or wrong otherwise
}

func (g *grower) one(words string) string {
	list := strings.Fields(words)
	return list[g.Intn(len(list))]
}

func (g *grower) rarely() bool { return g.Intn(g.rare) == 0 }

// number is one at which something may change, or a small one.
func (g *grower) number() string {
	n := g.Intn(5) - 1
	if list := operands(); g.Intn(3) == 0 {
		n = list[g.Intn(len(list))]
	}
	return "(" + modelNumber(big.NewInt(int64(n))) + ")"
}

// expr is a number or, rarely, made of parts that are not constant.
func (g *grower) expr(high int) string {
	if g.rarely() {
		return "(" + g.moving(max(high-1, 0)) + ")"
	}
	if high == 0 || g.Intn(6) == 0 {
		return g.number()
	}
	high--
	e := func() string { return g.expr(high) }
	switch g.Intn(7) {
	case 0:
		return "(" + e() + " ? " + e() + " : " + e() + ")"
	case 1:
		return "(" + e() + g.one("&& ||") + e() + ")"
	case 2, 3:
		return g.one("- ~ ! -") + " " + e()
	}
	return "(" + e() + " " + g.one("+ - * / % & | ^ << >> == != < <= > >=") + " " + e() + ")"
}

// moving is not constant, whatever its parts are.
func (g *grower) moving(high int) string {
	e := func() string { return g.expr(high) }
	switch g.Intn(9) {
	case 0:
		return g.one("i *p fi() read() i++ --i p==p !p")
	case 1:
		return "a[" + e() + "]"
	case 2:
		return "*(p + " + e() + ")"
	case 3:
		return "print(" + e() + ")"
	case 4:
		return "i " + g.one("= += -= *= <<=") + e()
	case 5:
		return e() + g.one("/ %") + "0"
	case 6:
		return "i " + g.one("+ - * && || < ==") + " " + e()
	case 7:
		return e() + "? i : " + e()
	}
	return "- " + e() + " + i"
}

// choice is an expression of a case: of few values, so that two may be the same.
func (g *grower) choice() string {
	if g.rarely() {
		return g.expr(2)
	}
	n := g.Intn(6) - 2
	if g.Intn(4) == 0 {
		return fmt.Sprint(n-1, " + 1")
	}
	return fmt.Sprint(n)
}

func (g *grower) action(high int) string {
	if high == 0 || g.Intn(4) == 0 {
		return g.one("; i; i++; {} break; p;")
	}
	high--
	switch g.Intn(6) {
	case 0:
		return "{ " + g.action(high) + " " + g.action(high) + " }"
	case 1:
		return "if (" + g.expr(2) + ") " + g.action(high)
	case 2:
		return g.expr(3) + ";"
	}
	text := "switch (" + g.expr(1) + ") { "
	for n := g.Intn(6); n > 0; n-- {
		switch g.Intn(6) {
		case 0:
			text += "default: "
		case 1:
			text += g.action(high) + " "
		default:
			text += "case " + g.choice() + ": "
		}
	}
	return text + "}"
}

// global has constant initial values or, rarely, others.
func (g *grower) global(name string) string {
	e := func() string { return g.expr(g.Intn(4)) }
	switch g.Intn(6) {
	case 0:
		return "int " + name + "[3] = {" + e() + ", " + e() + "}; "
	case 1:
		if g.rarely() {
			return "int *" + name + " = " + g.one("a p &i a+1 0 i") + "; "
		}
		return "int *" + name + "; "
	case 2:
		return "int " + name + "; "
	}
	return "int " + name + " = " + e() + "; "
}

func (g *grower) unit(high int) string {
	tops := []string{g.global("g"), "void test() { while (i) { " + g.action(high) + " " + g.action(high) + " } } ", "void main() { while (i) " + g.action(high) + " } ", g.global("h")}
	g.Shuffle(len(tops), func(i, j int) { tops[i], tops[j] = tops[j], tops[i] })
	return world + strings.Join(tops, "")
}

// agrees tells the test if a tree in its form has other values, another fault or another result than those of the model.
func agrees(t *testing.T, what string, of api.Tree) (check, fold api.Fault) {
	t.Helper()
	for k := range of.Nodes {
		if got, want := shown(t, of, k), modelShown(of, k); got != want {
			t.Fatalf("%s: node %d is %s; want %s", what, k, got, want)
		}
	}
	_, check = types.Of(of)
	if check == (api.Fault{}) {
		check = modelCheck(of)
	}
	if f := consts.Check(of); f != check {
		t.Fatalf("%s: %v; want %v", what, f, check)
	}
	want, fold := modelFolded(t, of)
	if fold != (api.Fault{}) {
		noFold(t, what, of, fold)
		return check, fold
	}
	becomes(t, what, of, want)
	becomes(t, what, want, want)
	if f := consts.Check(want); f.Code != check.Code {
		t.Fatalf("%s: %v when folded; want code %d", what, f, check.Code)
	}
	return check, fold
}

// TestRandomExpressions compares with the model.
func TestRandomExpressions(t *testing.T) {
	for _, rare := range []int{5, 40, 100000} {
		g := &grower{rand.New(rand.NewSource(int64(rare))), rare}
		steady := 0
		for i := range 1200 {
			text := g.expr(1 + i%6)
			of, f := parse.Expr(text)
			if f != (api.Fault{}) {
				if f.Code == api.ErrText && f.At < api.MaxText && len(text) < api.MaxText {
					t.Fatalf("%s: %v", text, f)
				}
				continue
			}
			agrees(t, text, of)
			if modelShown(of, len(of.Nodes)-1) != "-" {
				steady++
			}
		}
		if steady < 50 {
			t.Errorf("of expressions of rarity %d %d are constant", rare, steady)
		}
	}
}

// TestRandomUnits compares with the model.
func TestRandomUnits(t *testing.T) {
	for _, rare := range []int{10, 60, 5000} {
		g := &grower{rand.New(rand.NewSource(int64(rare))), rare}
		codes := map[int]int{}
		for i := range 700 {
			text := g.unit(1 + i%4)
			of, f := parse.Unit(text)
			if f != (api.Fault{}) {
				if f.Code == api.ErrText && len(text) < api.MaxText {
					t.Fatalf("%s: %v", text, f)
				}
				continue
			}
			check, _ := agrees(t, text, of)
			codes[check.Code]++
		}
		for _, code := range []int{api.OK, api.ErrForm, api.ErrTwice} {
			if codes[code] < 20 {
				t.Errorf("of units of rarity %d %d have the code %d", rare, codes[code], code)
			}
		}
	}
}

// spoil changes one thing about one node, or takes it out.
func spoil(g *grower, of *api.Tree) {
	if len(of.Nodes) == 0 {
		return
	}
	k := g.Intn(len(of.Nodes))
	n := &of.Nodes[k]
	switch g.Intn(7) {
	case 0:
		n.Kind = g.Intn(43) - 1
	case 1:
		n.Text = g.one("x i p read 9 + - / & = += && || ! fi main abcdefghijklm")
	case 2:
		n.N = g.Intn(7) - 2
	case 3:
		n.At = g.Intn(3) - 1
	case 4:
		n.Kids = append(n.Kids[:len(n.Kids):len(n.Kids)], k-g.Intn(4)+1)
	case 5:
		of.Nodes = of.Nodes[:k+1]
	case 6:
		of.Nodes = append(of.Nodes[:k:k], of.Nodes[k+1:]...)
	}
}

// TestSpoiltUnits: of trees with faults only those in their form have values and can be folded, and none makes a function panic.
func TestSpoiltUnits(t *testing.T) {
	g := &grower{rand.New(rand.NewSource(1)), 100}
	codes := map[int]int{}
	for i := range 6000 {
		of, f := parse.Unit(g.unit(1 + i%3))
		if f != (api.Fault{}) {
			continue
		}
		for n := g.Intn(3); n >= 0; n-- {
			spoil(g, &of)
		}
		want := tree.Check(of)
		if want == (api.Fault{}) {
			want, _ = agrees(t, fmt.Sprint(of), of)
		} else {
			formFirst(t, of, want)
		}
		codes[want.Code]++
	}
	for _, code := range []int{api.OK, api.ErrKind, api.ErrSize, api.ErrForm, api.ErrName, api.ErrText, api.ErrRange, api.ErrState, api.ErrNone, api.ErrType, api.ErrTwice} {
		if codes[code] < 5 {
			t.Errorf("code %d only %d times", code, codes[code])
		}
	}
}
