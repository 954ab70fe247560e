package parse

import (
	"slices"
	"strings"
	"testing"

	"turnery/api"
)

// levels are the operators of R3.1, from the lowest precedence to the highest.
var levels = [][]string{
	strings.Fields("= += -= *= /= %= &= |= ^= <<= >>= ?"),
	{"||"}, {"&&"}, {"|"}, {"^"}, {"&"},
	strings.Fields("== !="), strings.Fields("< <= > >="), strings.Fields("<< >>"), strings.Fields("+ -"), strings.Fields("* / %"),
}

// infix is an operator as text, and as the node that show writes; mid is what stands between ? and :.
func infix(sign, mid string) (text, node string) {
	switch {
	case sign == "?":
		return "?" + mid + ":", "pick"
	case sign == "&&" || sign == "||":
		return sign, "both" + sign
	case slices.Contains(levels[0], sign):
		return sign, "set" + sign
	}
	return sign, "two" + sign
}

// joined is how show writes an operator and its operands.
func joined(node, left, mid, right string) string {
	if node == "pick" {
		return node + "(" + left + ", " + mid + ", " + right + ")"
	}
	return node + "(" + left + ", " + right + ")"
}

// TestPairsOfOperators sets each two operators side by side: a one b other c.
func TestPairsOfOperators(t *testing.T) {
	count := 0
	for low, signs := range levels {
		for high, others := range levels {
			for _, one := range signs {
				for _, other := range others {
					count++
					first, firstNode := infix(one, "m")
					second, secondNode := infix(other, "n")
					left := joined(secondNode, joined(firstNode, "a", "m", "b"), "n", "c")
					right := joined(firstNode, "a", "m", joined(secondNode, "b", "n", "c"))
					want := right
					if low > high || low == high && low > 0 {
						want = left
					}
					plain := "a " + first + " b " + second + " c"
					parses(t, Expr, plain, want)
					parses(t, Unit, "int x = "+plain+";", "unit(var x:int("+want+"))")
					parses(t, Expr, "(a "+first+" b) "+second+" c", left)
					parses(t, Expr, "a "+first+" (b "+second+" c)", right)
				}
			}
		}
	}
	if count != 30*30 {
		t.Errorf("%d pairs of operators; want those of 30", count)
	}
}

// TestBetweenQuestionAndColon: any expression may stand there, and no parentheses are needed around it.
func TestBetweenQuestionAndColon(t *testing.T) {
	for _, signs := range levels {
		for _, sign := range signs {
			text, node := infix(sign, "m")
			parses(t, Expr, "x ? a "+text+" b : c", "pick(x, "+joined(node, "a", "m", "b")+", c)")
		}
	}
	parses(t, Expr, "a ? b ? c : d : e", "pick(a, pick(b, c, d), e)")
	parses(t, Expr, "a ? b = c ? d : e : f = g", "pick(a, set=(b, pick(c, d, e)), set=(f, g))")
}

// TestPrefixAndPostfix: each prefix operator beside each infix and each postfix one.
func TestPrefixAndPostfix(t *testing.T) {
	prefixes := map[string]string{"-": "one-", "!": "one!", "~": "one~", "*": "one*", "&": "one&", "++": "pre++", "--": "pre--"}
	postfixes := map[string]string{"[i]": "index(a, i)", "++": "post++(a)", "--": "post--(a)"}
	for before, beforeNode := range prefixes {
		parses(t, Expr, before+"a", beforeNode+"(a)")
		parses(t, Expr, before+" 7", beforeNode+"(7)")
		parses(t, Expr, before+"(a = b)", beforeNode+"(set=(a, b))")
		for after, afterNode := range postfixes {
			parses(t, Expr, before+" a "+after, beforeNode+"("+afterNode+")")
			parses(t, Expr, "("+before+" a)"+after, strings.Replace(afterNode, "a", beforeNode+"(a)", 1))
		}
		for other, otherNode := range prefixes {
			parses(t, Expr, before+" "+other+" a", beforeNode+"("+otherNode+"(a))")
		}
		for _, signs := range levels {
			for _, sign := range signs {
				text, node := infix(sign, "m")
				one := beforeNode + "(a)"
				parses(t, Expr, before+" a "+text+" b", joined(node, one, "m", "b"))
				parses(t, Expr, "b "+text+" "+before+" a", joined(node, "b", "m", one))
				parses(t, Expr, before+"(a "+text+" b)", beforeNode+"("+joined(node, "a", "m", "b")+")")
			}
		}
	}
	for after, afterNode := range postfixes {
		for _, signs := range levels {
			for _, sign := range signs {
				text, node := infix(sign, "m")
				parses(t, Expr, "b "+text+" a"+after, joined(node, "b", "m", afterNode))
				parses(t, Expr, "(b "+text+" c)"+after, strings.Replace(afterNode, "a", joined(node, "b", "m", "c"), 1))
			}
		}
	}
}

func TestExpr(t *testing.T) {
	for _, c := range [][2]string{
		{"a + b * c", "two+@2(a@0, two*@6(b@4, c@8))"},
		{"1", "1@0"}, {"x", "x@0"}, {"0x1F", "31@0"}, {"'a'", "97@0"}, {`'\n'`, "10@0"}, {"9223372036854775807", "9223372036854775807@0"},
		{"f()", "call f@0"}, {"f(1)", "call f@0(1@2)"}, {" f ( a , b = c , g ( ) ) ", "call f@1(a@5, set=@11(b@9, c@13), call g@17)"},
		{"f(a ? b : c, d)", "call f@0(pick@4(a@2, b@6, c@10), d@13)"},
		{"f(1)[2]", "index@4(call f@0(1@2), 2@5)"}, {"f(x)++", "post++@4(call f@0(x@2))"},
		{"((x))", "x@2"}, {"(f)", "f@1"}, {"(a)[(1)]", "index@3(a@1, 1@5)"},
		{"a[1][2]++--[3]", "index@11(post--@9(post++@7(index@4(index@1(a@0, 1@2), 2@5))), 3@12)"},
		{"a[b = c]", "index@1(a@0, set=@4(b@2, c@6))"},
		{"1[2]", "index@1(1@0, 2@2)"}, {"1 = 2", "set=@2(1@0, 2@4)"}, {"-a = b", "set=@3(one-@0(a@1), b@5)"}, {"a + b = c", "set=@6(two+@2(a@0, b@4), c@8)"},
		{"a = b = c", "set=@2(a@0, set=@6(b@4, c@8))"}, {"a ? b : c = d", "pick@2(a@0, b@4, set=@10(c@8, d@12))"},
		{"(a ? b : c) = d", "set=@12(pick@3(a@1, b@5, c@9), d@14)"}, {"(a = b) ? c : d", "pick@8(set=@3(a@1, b@5), c@10, d@14)"},
		{"a ? b : c ? d : e", "pick@2(a@0, b@4, pick@10(c@8, d@12, e@16))"},
		{"a - b - c - d", "two-@10(two-@6(two-@2(a@0, b@4), c@8), d@12)"},
		{"a || b && c | d ^ e & f == g < h << i + j * k", "both||@2(a@0, both&&@7(b@5, two|@12(c@10, two^@16(d@14, two&@20(e@18, two==@24(f@22, two<@29(g@27, two<<@33(h@31, two+@38(i@36, two*@42(j@40, k@44))))))))))"},
		{
			"a * b + c << d < e == f & g ^ h | i && j || k = l",
			"set=@46(both||@41(both&&@36(two|@32(two^@28(two&@24(two==@19(two<@15(two<<@10(two+@6(two*@2(a@0, b@4), c@8), d@13), e@17), f@22), g@26), h@30), i@34), j@39), k@44), l@48)",
		},
		{"a+++b", "two+@3(post++@1(a@0), b@4)"}, {"a - --b", "two-@2(a@0, pre--@4(b@6))"}, {"- -a", "one-@0(one-@2(a@3))"}, {"--a--", "pre--@0(post--@3(a@2))"},
		{"!~-*&++--a", "one!@0(one~@1(one-@2(one*@3(one&@4(pre++@5(pre--@7(a@9)))))))"},
		{"a & &b", "two&@2(a@0, one&@4(b@5))"}, {"a * *b", "two*@2(a@0, one*@4(b@5))"}, {"a&&*b", "both&&@1(a@0, one*@3(b@4))"},
		{"\t/* ( */a // +\n+ b//", "two+@15(a@8, b@17)"},
		{"( ( a ) + ( b ) )", "two+@8(a@4, b@12)"},
		{"(-1)++", "post++@4(one-@1(1@2))"},
	} {
		parses(t, Expr, c[0], c[1])
	}
}

// TestNodesOfExpr compares whole nodes, not what show writes of them.
func TestNodesOfExpr(t *testing.T) {
	same := func(text string, want ...api.Node) {
		t.Helper()
		got, f := Expr(text)
		if f != (api.Fault{}) || !alike(got, api.Tree{Nodes: want}) {
			t.Errorf("%q: %+v, %v; want %+v", text, got, f, want)
		}
	}
	same("1", api.Node{Kind: api.IsNum, N: 1})
	same(" f(x, 2)", api.Node{Kind: api.IsName, Text: "x", At: 3}, api.Node{Kind: api.IsNum, N: 2, At: 6}, api.Node{Kind: api.IsCall, Text: "f", Kids: []int{0, 1}, At: 1})
	same("a[2]", api.Node{Kind: api.IsName, Text: "a"}, api.Node{Kind: api.IsNum, N: 2, At: 2}, api.Node{Kind: api.IsIndex, Kids: []int{0, 1}, At: 1})
	same("~x", api.Node{Kind: api.IsName, Text: "x", At: 1}, api.Node{Kind: api.IsOne, Text: "~", Kids: []int{0}})
	same("++x", api.Node{Kind: api.IsName, Text: "x", At: 2}, api.Node{Kind: api.IsStep, Text: "++", Kids: []int{0}})
	same("x--", api.Node{Kind: api.IsName, Text: "x"}, api.Node{Kind: api.IsStep, Text: "--", N: 1, Kids: []int{0}, At: 1})
	two := []api.Node{{Kind: api.IsName, Text: "x"}, {Kind: api.IsName, Text: "y", At: 4}}
	same("x % y", append(two[:2:2], api.Node{Kind: api.IsTwo, Text: "%", Kids: []int{0, 1}, At: 2})...)
	same("x*= y", append(two[:2:2], api.Node{Kind: api.IsSet, Text: "*=", Kids: []int{0, 1}, At: 1})...)
	same("x&& y", append(two[:2:2], api.Node{Kind: api.IsBoth, Text: "&&", Kids: []int{0, 1}, At: 1})...)
	same("x ? y : 3", append(two[:2:2], api.Node{Kind: api.IsNum, N: 3, At: 8}, api.Node{Kind: api.IsPick, Kids: []int{0, 1, 2}, At: 2})...)
}
