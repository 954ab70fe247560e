package types_test

import (
	"fmt"
	"math/rand"
	"slices"
	"strings"
	"testing"

	"turnery/api"
	"turnery/parse"
	"turnery/scope"
	"turnery/tree"
	"turnery/types"
)

// grower writes random units in the test's world.
type grower struct {
	*rand.Rand
	rare  int // one choice of so many may be wrong
	local []string
}

func (g *grower) one(words string) string {
	list := strings.Fields(words)
	return list[g.Intn(len(list))]
}

func (g *grower) rarely() bool { return g.Intn(g.rare) == 0 }

// name is one of a type's that is visible, as far as the names of locals tell.
func (g *grower) name(letter string) string {
	list := map[string][]string{"i": {"i", "n"}, "p": {"p", "q", "a"}, "v": {"v()"}}[letter]
	for _, name := range g.local {
		if strings.HasPrefix(name, letter) {
			list = append(list, name)
		}
	}
	return list[g.Intn(len(list))]
}

// place is one of a type or, rarely, an expression that may be none.
func (g *grower) place(letter string, high int) string {
	if g.rarely() {
		return "(" + g.expr(letter, high) + ")"
	}
	if letter == "i" && g.Intn(2) == 0 {
		return []string{"*(" + g.expr("p", high) + ")", "(" + g.expr("p", high) + ")[" + g.expr("i", high) + "]"}[g.Intn(2)]
	}
	for {
		if name := g.name(letter); name != "a" || g.rarely() {
			return name
		}
	}
}

// expr is an expression of the type or, rarely, of another one.
func (g *grower) expr(letter string, high int) string {
	if g.rarely() {
		letter = g.one("i p v")
	}
	if letter == "v" {
		return []string{"v()", "w(" + g.expr("i", max(high-1, 0)) + ")"}[g.Intn(2)]
	}
	if high == 0 || g.Intn(5) == 0 {
		return g.name(letter)
	}
	high--
	e := func(letter string) string { return "(" + g.expr(letter, high) + ")" }
	any := func() string { return e(g.one("i p")) }
	switch g.Intn(6) {
	case 0:
		return any() + " ? " + e(letter) + " : " + e(letter)
	case 1:
		return g.place(letter, high) + " = " + e(letter)
	case 2:
		return g.place(letter, high) + " " + g.one("+= -=") + " " + e("i")
	case 3:
		return []string{g.one("++ --") + " " + g.place(letter, high), "(" + g.place(letter, high) + ") " + g.one("++ --")}[g.Intn(2)]
	}
	if letter == "p" {
		return g.pointer(high, e)
	}
	return g.number(high, e, any)
}

// pointer is an expression that tells a pointer, made of others.
func (g *grower) pointer(high int, e func(string) string) string {
	switch g.Intn(5) {
	case 0:
		return e("p") + " " + g.one("+ -") + " " + e("i")
	case 1:
		return e("i") + " + " + e("p")
	case 2:
		return "fp()"
	case 3:
		return "& " + g.one("i a[0] *p q[1]")
	}
	return "& " + g.place("i", high)
}

// number is an expression that tells a number, made of others.
func (g *grower) number(high int, e func(string) string, any func() string) string {
	switch g.Intn(9) {
	case 0:
		return any() + " " + g.one("&& ||") + " " + any()
	case 1:
		letter := g.one("i p")
		return e(letter) + " " + g.one("== != < <= > >= -") + " " + e(letter)
	case 2:
		return g.one("- ~") + " " + e("i")
	case 3:
		return "! " + any()
	case 4:
		return g.one("fi() read() 7")
	case 5:
		return "print(" + g.expr("i", high) + ")"
	case 6:
		return "g(" + g.expr("i", high) + ", " + g.expr("p", high) + ")"
	case 7:
		return g.place("i", high) + " " + g.one("*= /= %= &= |= ^= <<= >>=") + " " + e("i")
	}
	return e("i") + " " + g.one("+ - * / % & | ^ << >>") + " " + e("i")
}

// value is an expression that tells a number or a pointer.
func (g *grower) value() string { return g.expr(g.one("i p"), 2) }

// variable declares a local, whose name begins with the letter of its type.
func (g *grower) variable() string {
	letter := g.one("i p")
	initial := ""
	if g.Intn(2) == 0 {
		initial = " = " + g.expr(letter, 2)
	}
	name := fmt.Sprint(letter, len(g.local))
	if g.rarely() {
		name = g.one("i p a v n q")
	}
	g.local = append(g.local, name)
	return "int " + starOf(letter) + name + initial + ";"
}

// actions are some in a scope of their own.
func (g *grower) actions(high int, s setting) string {
	visible := len(g.local)
	text := ""
	for n := g.Intn(4); n > 0; n-- {
		text += g.action(high, s) + " "
	}
	g.local = g.local[:visible:visible]
	return text
}

// leaf is an action without others in it.
func (g *grower) leaf(s setting) string {
	switch g.Intn(8) {
	case 0, 1:
		return g.variable()
	case 2:
		if s.left || g.rarely() {
			return "break;"
		}
	case 3:
		if s.again || g.rarely() {
			return "continue;"
		}
	case 4:
		if s.result == "v" != g.rarely() {
			return "return;"
		}
		return "return " + g.expr(s.result, 2) + ";"
	}
	return g.expr(g.one("i p v"), 3) + ";"
}

func (g *grower) action(high int, s setting) string {
	if high == 0 || g.Intn(3) == 0 {
		return g.leaf(s)
	}
	high--
	loop := setting{s.result, true, true}
	block := func(s setting) string { return "{ " + g.actions(high, s) + "}" }
	switch g.Intn(8) {
	case 0:
		return block(s)
	case 1:
		return "if (" + g.value() + ") " + block(s) + " else " + block(s)
	case 2:
		return "if (" + g.value() + ") " + block(s)
	case 3:
		return "while (" + g.value() + ") " + block(loop)
	case 4:
		return "do " + block(loop) + " while (" + g.value() + ");"
	case 5:
		return "for (; ; " + g.value() + ") " + block(loop)
	case 6:
		visible := len(g.local)
		text := "for (" + g.variable() + " " + g.value() + "; " + g.value() + ") " + block(loop)
		g.local = g.local[:visible:visible]
		return text
	}
	s.left = true
	return "switch (" + g.expr("i", 2) + ") { case " + g.expr("i", 1) + ": " + g.actions(high, s) + "default: " + g.actions(high, s) + "}"
}

func (g *grower) unit(high int) string {
	var tops []string
	for range 2 {
		g.local = nil
		result := g.one("i p v")
		name := fmt.Sprint("f", len(tops))
		tops = append(tops, strings.NewReplacer("x0", "n", "x1", "q").Replace(function(result, name, []string{"i", "p"}, " "+g.actions(high, setting{result: result})+" ")))
	}
	g.local = nil
	tops = append(tops, "int g(int n, int *q) { return n; }", "int n = "+g.expr("i", 2)+";", "int *q = "+g.expr("p", 2)+";", "int c[3] = {"+g.expr("i", 1)+", "+g.expr("i", 1)+"};")
	if g.rarely() {
		tops = append(tops, []string{"int main;", "void main(int n) {}", ""}[g.Intn(3)])
	} else {
		tops = append(tops, function(g.one("i p v"), "main", nil, ""))
	}
	g.Shuffle(len(tops), func(i, j int) { tops[i], tops[j] = tops[j], tops[i] })
	return world + strings.Join(tops, " ")
}

// agrees tells the test if the types of a unit are other than those of the model.
func agrees(t *testing.T, what string, of api.Tree) api.Fault {
	t.Helper()
	want, wantFault := modelOf(of)
	got, f := types.Of(of)
	if f != wantFault || !slices.Equal(got, want) {
		t.Fatalf("%s: %v, %v; want %v, %v", what, got, f, want, wantFault)
	}
	return f
}

// TestRandomUnits compares with the model.
func TestRandomUnits(t *testing.T) {
	for _, rare := range []int{10, 60, 5000} {
		g := &grower{Rand: rand.New(rand.NewSource(int64(rare))), rare: rare}
		codes := map[int]int{}
		for i := range 5000 {
			text := g.unit(1 + i%4)
			of, f := parse.Unit(text)
			if f != (api.Fault{}) {
				if f.Code == api.ErrText {
					t.Fatalf("%s: %v", text, f)
				}
				continue
			}
			codes[agrees(t, text, of).Code]++
		}
		for _, code := range []int{api.OK, api.ErrType, api.ErrState, api.ErrForm, api.ErrNone} {
			if codes[code] < 10 && rare == 60 {
				t.Errorf("of units of rarity %d %d have the code %d", rare, codes[code], code)
			}
		}
		if rare == 5000 && codes[api.OK] < 2000 {
			t.Errorf("only %d units without a fault", codes[api.OK])
		}
	}
}

// spoil changes one thing about one node, or takes it out.
func spoil(g *grower, of *api.Tree) {
	if len(of.Nodes) == 0 {
		return
	}
	k := g.Intn(len(of.Nodes))
	n := &of.Nodes[k]
	switch g.Intn(7) {
	case 0:
		n.Kind = g.Intn(43) - 1
	case 1:
		n.Text = g.one("x i p read 9 + - & = += && fi main abcdefghijklm")
	case 2:
		n.N = g.Intn(7) - 2
	case 3:
		n.At = g.Intn(3) - 1
	case 4:
		n.Kids = append(n.Kids[:len(n.Kids):len(n.Kids)], k-g.Intn(4)+1)
	case 5:
		of.Nodes = of.Nodes[:k+1]
	case 6:
		of.Nodes = append(of.Nodes[:k:k], of.Nodes[k+1:]...)
	}
}

// TestSpoiltUnits: of a tree that is none, or no unit, or whose names have faults, there are no types, and none makes Of panic.
func TestSpoiltUnits(t *testing.T) {
	g := &grower{Rand: rand.New(rand.NewSource(1)), rare: 1000}
	codes := map[int]int{}
	for i := range 15000 {
		of, f := parse.Unit(g.unit(1 + i%2))
		if f != (api.Fault{}) {
			continue
		}
		for n := g.Intn(3); n >= 0; n-- {
			spoil(g, &of)
		}
		want := tree.Check(of)
		if want == (api.Fault{}) {
			_, want = scope.Names(of)
		}
		if want == (api.Fault{}) {
			want = agrees(t, fmt.Sprint(of), of)
		} else {
			fails(t, fmt.Sprint(of), of, want)
		}
		codes[want.Code]++
	}
	for _, code := range []int{api.OK, api.ErrKind, api.ErrSize, api.ErrForm, api.ErrName, api.ErrText, api.ErrRange, api.ErrState, api.ErrNone, api.ErrType} {
		if codes[code] < 30 {
			t.Errorf("code %d only %d times", code, codes[code])
		}
	}
}
