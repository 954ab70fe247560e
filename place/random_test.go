package place_test

import (
	"fmt"
	"math/rand"
	"strings"
	"testing"

	"turnery/api"
	"turnery/consts"
	"turnery/parse"
	"turnery/place"
)

// top is a global of a random unit, or a function: that has no words.
type top struct {
	api.Global
	text   string
	params int
}

// grower makes random units; its globals have so many words at most.
type grower struct {
	*rand.Rand
	words int
}

// global has as many initial values as fit, or fewer.
func (g *grower) global(name string) top {
	t := top{Global: api.Global{Name: name, Size: 1}}
	if g.Intn(4) == 0 {
		t.text = "int *" + name + "; "
		return t
	}
	t.text = "int " + name
	isArray := g.Intn(2) == 0
	if isArray {
		t.Size = 1 + g.Intn(g.words)
		t.text += fmt.Sprint("[", t.Size, "]")
	}
	var list []string
	for range g.Intn(min(t.Size, 4) + 1) {
		a, b := g.Intn(9)-4, g.Intn(100)
		t.Init = append(t.Init, a*b)
		list = append(list, fmt.Sprint(a, " * ", b))
	}
	switch text := strings.Join(list, ", "); {
	case isArray && (text != "" || g.Intn(2) == 0):
		t.text += " = {" + text + "}"
	case text != "":
		t.text += " = " + text
	}
	t.text += "; "
	return t
}

func (g *grower) function(name string) top {
	count := g.Intn(api.MaxParams + 1)
	if g.Intn(12) == 0 {
		count += 1 + g.Intn(4)
	}
	return top{Global: api.Global{Name: name}, params: count, text: "void " + name + "(" + params(count) + ") { int x; } "}
}

func (g *grower) unit(count int) []top {
	list := []top{{Global: api.Global{Name: "main"}, text: "void main() { int y = 1; } "}}
	for k := range count {
		if g.Intn(2) == 0 {
			list = append(list, g.function(fmt.Sprint("f", k)))
		} else {
			list = append(list, g.global(fmt.Sprint("g", k)))
		}
	}
	g.Shuffle(len(list), func(i, j int) { list[i], list[j] = list[j], list[i] })
	return list
}

// firstWrong is which one of a unit's globals and functions is too many; the code is 0: none.
func firstWrong(list []top) (i, code int) {
	for i := range list {
		globals, words := 0, 0
		for _, t := range list[:i+1] {
			globals += min(t.Size, 1)
			words += t.Size
		}
		if list[i].params > api.MaxParams {
			return i, api.ErrMany
		}
		if globals > api.MaxGlobals || i+1-globals > api.MaxFuncs || words > api.MaxWords {
			return i, api.ErrMuch
		}
	}
	return 0, api.OK
}

// TestRandomUnits compares with what the units were written from.
func TestRandomUnits(t *testing.T) {
	for _, words := range []int{3, 30, 120} {
		g := &grower{rand.New(rand.NewSource(int64(words))), words}
		codes := map[int]int{}
		for k := range 1000 {
			list := g.unit(k % 24)
			text := ""
			for _, top := range list {
				text += top.text
			}
			if len(text) > api.MaxText {
				continue
			}
			i, code := firstWrong(list)
			codes[code]++
			if code != api.OK {
				faulty(t, text, code, list[i].Name)
				continue
			}
			var globals []api.Global
			var places []string
			first := 0
			for _, top := range list {
				if top.Size > 0 {
					globals = append(globals, top.Global)
					places = append(places, fmt.Sprint(top.Name, " ", first))
				}
				first += top.Size
			}
			has(t, text, globals...)
			at(t, text, strings.Join(places, ", "))
		}
		for _, code := range []int{api.OK, api.ErrMany, api.ErrMuch} {
			if codes[code] < 100 {
				t.Errorf("of units of %d words %d have the code %d", words, codes[code], code)
			}
		}
	}
}

// spoil changes one thing about one node, or takes it out.
func (g *grower) spoil(of *api.Tree) {
	if len(of.Nodes) == 0 {
		return
	}
	k := g.Intn(len(of.Nodes))
	n := &of.Nodes[k]
	switch g.Intn(7) {
	case 0:
		n.Kind = g.Intn(43) - 1
	case 1:
		n.Text = []string{"", "x", "y", "9", "read", "main", "int", "*"}[g.Intn(8)]
	case 2:
		n.N = g.Intn(7) - 2
	case 3:
		n.Size = g.Intn(300) - 5
	case 4:
		n.Kids = append(n.Kids[:len(n.Kids):len(n.Kids)], k-g.Intn(4)+1)
	case 5:
		of.Nodes = of.Nodes[:k+1]
	case 6:
		of.Nodes = append(of.Nodes[:k:k], of.Nodes[k+1:]...)
	}
}

// TestSpoiltUnits: of trees with faults those of consts.Check come first, and none makes a function panic.
func TestSpoiltUnits(t *testing.T) {
	g := &grower{rand.New(rand.NewSource(1)), 100}
	codes := map[int]int{}
	for i := range 6000 {
		text := ""
		for _, top := range g.unit(i % 18) {
			text += top.text
		}
		of, f := parse.Unit(text)
		if f != (api.Fault{}) {
			continue
		}
		for n := g.Intn(3); n >= 0; n-- {
			g.spoil(&of)
		}
		fault := place.Check(of)
		codes[fault.Code]++
		if before := consts.Check(of); before != (api.Fault{}) && fault != before {
			t.Fatalf("%v: %v; want %v", of, fault, before)
		}
		if fault != (api.Fault{}) {
			fails(t, fmt.Sprint(of), of, fault)
			continue
		}
		var want []string
		first := 0
		list, _ := place.Globals(of)
		for _, g := range list {
			want = append(want, fmt.Sprint(g.Name, " ", first))
			first += g.Size
		}
		if got := placed(t, text, of); got != strings.Join(want, ", ") {
			t.Fatalf("%v: %s; want %v", of, got, want)
		}
	}
	for _, code := range []int{api.OK, api.ErrMany, api.ErrKind, api.ErrForm, api.ErrName, api.ErrRange, api.ErrState, api.ErrNone, api.ErrTwice, api.ErrMuch} {
		if codes[code] < 5 {
			t.Errorf("code %d only %d times", code, codes[code])
		}
	}
}
