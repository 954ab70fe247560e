package parse

import (
	"strings"
	"testing"

	"turnery/api"
)

// signs are so many prefix operators, in no two of which the scanner sees another one.
func signs(count int) string { return strings.Repeat("-~", count)[:count] }

// large tells the test if a text does not come to a tree of so many nodes.
func large(t *testing.T, parse parser, text string, count int) {
	t.Helper()
	if got, f := parse(text); f != (api.Fault{}) || len(got.Nodes) != count {
		t.Errorf("%.100q: %d nodes, %v; want %d", text, len(got.Nodes), f, count)
	}
}

// calls is a call whose tree has so many nodes, of which no more than 12 are nested.
func calls(count int) string {
	count--
	var args []string
	for ; count > 10; count -= 10 {
		args = append(args, signs(9)+"a")
	}
	if count > 0 {
		args = append(args, signs(count-1)+"a")
	}
	return "f(" + strings.Join(args, ",") + ")"
}

// units has a tree of so many nodes, at least 4.
func units(count int) string { return "void f(){" + strings.Repeat(";", count-3) + "}" }

func TestMaxNodes(t *testing.T) {
	for _, count := range []int{4, 100, api.MaxNodes - 1, api.MaxNodes} {
		large(t, Expr, calls(count), count)
		large(t, Unit, units(count), count)
		large(t, Unit, "int x="+calls(count-2)+";", count)
	}
	for _, count := range []int{api.MaxNodes + 1, api.MaxNodes + 2, api.MaxNodes + 100} {
		fails(t, Expr, calls(count), api.ErrMuch, 0)
		fails(t, Unit, units(count), api.ErrMuch, 0)
		fails(t, Unit, "int x="+calls(count-2)+";", api.ErrMuch, 0)
	}
	fails(t, Expr, " "+calls(api.MaxNodes+1), api.ErrMuch, 0)
	// The number of nodes counts, not that of the tokens.
	fails(t, Unit, units(api.MaxTokens-3), api.ErrMuch, 0)
	fails(t, Unit, units(api.MaxTokens-2), api.ErrMuch, 804)
	large(t, Unit, strings.Repeat("int x;", 266), 267)
	fails(t, Unit, strings.Repeat("int x;", 267), api.ErrMuch, 1601)
}

func TestMaxDeep(t *testing.T) {
	deep := api.MaxDeep
	blocks := func(count int, inner string) string {
		return "void f()" + strings.Repeat("{", count) + inner + strings.Repeat("}", count)
	}
	large(t, Expr, signs(deep-1)+"a", deep)
	large(t, Unit, blocks(deep-2, ""), deep)
	large(t, Unit, blocks(deep-3, ";"), deep)
	large(t, Unit, "int x="+signs(deep-3)+"a;", deep)
	large(t, Unit, "int x;int y="+signs(deep-3)+"a;int z;", deep+2)
	for more := 1; more < 4; more++ {
		fails(t, Expr, signs(deep-1+more)+"a", api.ErrMuch, 0)
		fails(t, Expr, "\n"+signs(deep-1+more)+"a", api.ErrMuch, 0)
		fails(t, Unit, blocks(deep-2+more, ""), api.ErrMuch, 0)
		fails(t, Unit, blocks(deep-3+more, ";"), api.ErrMuch, 0)
		fails(t, Unit, "int x;int y="+signs(deep-3+more)+"a;int z;", api.ErrMuch, 0)
	}
	// Operators that bind from the left and from the right.
	for sign, nodes := range map[string]int{"-": 2, "&&": 2, "=": 2, "?b:": 3} {
		large(t, Expr, strings.Repeat("a"+sign, deep-1)+"a", nodes*(deep-1)+1)
		fails(t, Expr, strings.Repeat("a"+sign, deep)+"a", api.ErrMuch, 0)
	}
	large(t, Expr, "a"+strings.Repeat("[0]", deep-1), 2*deep-1)
	fails(t, Expr, "a"+strings.Repeat("[0]", deep), api.ErrMuch, 0)
	large(t, Expr, strings.Repeat("f(", deep-1)+"a"+strings.Repeat(")", deep-1), deep)
	fails(t, Expr, strings.Repeat("f(", deep)+"a"+strings.Repeat(")", deep), api.ErrMuch, 0)
	// A block around an action counts, too: unit, function, block; then an if and a block each.
	large(t, Unit, "void f(){"+strings.Repeat("if(a)", 18)+";}", 3+3*18+1)
	fails(t, Unit, "void f(){"+strings.Repeat("if(a)", 19)+";}", api.ErrMuch, 0)
	large(t, Unit, "void f(){"+strings.Repeat("if(a);else ", 18)+";}", 3+5*18+1)
	fails(t, Unit, "void f(){"+strings.Repeat("if(a);else ", 19)+";}", api.ErrMuch, 0)
}

// TestParentheses: they are no nodes, so that any number of them may be nested.
func TestParentheses(t *testing.T) {
	for _, count := range []int{1, api.MaxDeep, 300, 397} {
		left, right := strings.Repeat("(", count), strings.Repeat(")", count)
		large(t, Expr, left+"a"+right, 1)
		large(t, Unit, "int x="+left+"a"+right+";", 3)
	}
	full := strings.Repeat("(", 398) + "-a" + strings.Repeat(")", 398)
	large(t, Expr, full, 2)
	large(t, Expr, "("+full+")", 2)
	fails(t, Expr, "(~"+full+")", api.ErrMuch, 800)
	for count := 1; count <= api.MaxTokens; count += 17 {
		fails(t, Expr, strings.Repeat("(", count), api.ErrText, count)
		fails(t, Unit, "int x="+strings.Repeat("(", min(count, 797)), api.ErrText, 6+min(count, 797))
		fails(t, Expr, strings.Repeat("(", count/2+1)+"a"+strings.Repeat(")", count/3), api.ErrText, count/2+2+count/3)
	}
}

// TestMuchLast: whatever else is wrong comes ahead of a tree too large.
func TestMuchLast(t *testing.T) {
	deep := signs(api.MaxDeep) + "a"
	fails(t, Expr, deep+")", api.ErrText, len(deep))
	fails(t, Expr, deep+"+", api.ErrText, len(deep)+1)
	fails(t, Expr, signs(api.MaxTokens), api.ErrText, api.MaxTokens)
	fails(t, Expr, calls(api.MaxNodes+1)+" b", api.ErrText, len(calls(api.MaxNodes+1))+1)
	fails(t, Unit, units(api.MaxNodes+1)+"}", api.ErrText, api.MaxNodes+8)
	fails(t, Unit, "int x="+deep+"; int y[0];", api.ErrRange, 6+len(deep)+8)
	fails(t, Unit, "int x="+deep+"; int y[1]={1,2};", api.ErrSize, 6+len(deep)+11)
	fails(t, Unit, "int y[1]={1,"+deep+"};", api.ErrSize, 9)
	fails(t, Unit, "int y[2]={1,"+deep+"};", api.ErrMuch, 0)
	fails(t, Expr, deep+" @", api.ErrText, len(deep)+1)
}

func TestMaxText(t *testing.T) {
	for _, c := range []struct {
		parse parser
		text  string
		count int
	}{{Expr, "a", 1}, {Unit, "int x;", 2}, {Unit, "", 1}} {
		gap := api.MaxText - len(c.text)
		large(t, c.parse, strings.Repeat(" ", gap)+c.text, c.count)
		large(t, c.parse, c.text+strings.Repeat("\n", gap), c.count)
		fails(t, c.parse, c.text+strings.Repeat(" ", gap+1), api.ErrMany, 0)
	}
	fails(t, Expr, "a+"+strings.Repeat(" ", api.MaxText-2), api.ErrText, api.MaxText)
	fails(t, Expr, strings.Repeat(" ", api.MaxText), api.ErrText, api.MaxText)
}

func TestMaxName(t *testing.T) {
	long := strings.Repeat("x", api.MaxName)
	parses(t, Expr, long+"("+long+")", "call "+long+"("+long+")")
	parses(t, Unit, "int "+long+";", "unit(var "+long+":int)")
	fails(t, Expr, "a + "+long+"x", api.ErrName, 4)
	fails(t, Unit, "int "+long+"x;", api.ErrName, 4)
}
