package parse

import (
	"strings"
	"testing"

	"turnery/api"
)

func TestGlobals(t *testing.T) {
	for _, c := range [][2]string{
		{"", "unit@0"}, {" \n// nothing\n/**/\t", "unit@0"},
		{"int x;", "unit@0(var x:int@4)"}, {"int *x;", "unit@0(var x:ptr@5)"}, {" int  * /**/ x ;", "unit@0(var x:ptr@13)"},
		{"int x = 1;", "unit@0(var x:int@4(1@8))"}, {"int *x = &y;", "unit@0(var x:ptr@5(one&@9(y@10)))"},
		{"int x = a = b ? c : d;", "unit@0(var x:int@4(set=@10(a@8, pick@14(b@12, c@16, d@20))))"},
		{"int x[1];", "unit@0(var x:array1@4)"}, {"int x[200];", "unit@0(var x:array200@4)"}, {"int x[0xc8];", "unit@0(var x:array200@4)"},
		{"int x['a'];", "unit@0(var x:array97@4)"}, {`int x['\n'];`, "unit@0(var x:array10@4)"},
		{"int x[3] = {};", "unit@0(var x:array3@4)"}, {"int x[3] = {1};", "unit@0(var x:array3@4(1@12))"},
		{"int x[3] = {-1, f(2, 3), a ? b : c};", "unit@0(var x:array3@4(one-@12(1@13), call f@16(2@18, 3@21), pick@27(a@25, b@29, c@33)))"},
		{"int x[1] = {f(1, 2, 3)};", "unit@0(var x:array1@4(call f@12(1@14, 2@17, 3@20)))"},
		{"int x[1] = {(1)};", "unit@0(var x:array1@4(1@13))"},
		{"int x; int *y; int z[2];", "unit@0(var x:int@4, var y:ptr@12, var z:array2@19)"},
		{"int x; int x;", "unit@0(var x:int@4, var x:int@11)"},
	} {
		parses(t, Unit, c[0], c[1])
	}
}

func TestFunctions(t *testing.T) {
	for _, c := range [][2]string{
		{"void f(){}", "unit@0(func f:void@5(block@8))"}, {"int f() { }", "unit@0(func f:int@4(block@8))"}, {"int *f(){}", "unit@0(func f:ptr@5(block@8))"},
		{"int f(int x){}", "unit@0(func f:int@4(param x:int@10, block@12))"},
		{"void f(int x, int *y, int z) {}", "unit@0(func f:void@5(param x:int@11, param y:ptr@19, param z:int@26, block@29))"},
		{"int f(int x) { return x; }", "unit@0(func f:int@4(param x:int@10, block@13(return@15(x@22))))"},
		{"int x; void f(){} int y = 2; int *g(){}", "unit@0(var x:int@4, func f:void@12(block@15), var y:int@22(2@26), func g:ptr@34(block@37))"},
		{"void f(){} void f(){}", "unit@0(func f:void@5(block@8), func f:void@16(block@19))"},
		{"void f(" + strings.Repeat("int x, ", api.MaxParams) + "int y){}", "unit@0(func f:void@5(" + strings.Join(manyParams(), ", ") + ", param y:int@53, block@55))"},
	} {
		parses(t, Unit, c[0], c[1])
	}
}

// manyParams are as many as a function may have; that it has no more is no matter of parsing.
func manyParams() []string {
	return strings.Split("param x:int@11|param x:int@18|param x:int@25|param x:int@32|param x:int@39|param x:int@46", "|")
}

// TestActions: the offsets count from the start of `void f(){`, which has 9 bytes.
func TestActions(t *testing.T) {
	for _, c := range [][2]string{
		{"{}", "block@9"}, {"{a;{b;}c;}", "block@9(do@10(a@10), block@12(do@13(b@13)), do@16(c@16))"},
		{"int x;", "local x:int@13"}, {"int *x;", "local x:ptr@14"}, {"int x = a = 1;", "local x:int@13(set=@19(a@17, 1@21))"}, {"int *x = a;", "local x:ptr@14(a@18)"},
		{"a;", "do@9(a@9)"}, {"a + b;", "do@9(two+@11(a@9, b@13))"}, {"(a);", "do@9(a@10)"}, {" ( a ) [ 1 ] = 2;", "do@10(set=@22(index@16(a@12, 1@18), 2@24))"},
		{"a++;", "do@9(post++@10(a@9))"}, {"f(x);", "do@9(call f@9(x@11))"}, {"a ? b : c;", "do@9(pick@11(a@9, b@13, c@17))"}, {"(a ? b : c)++;", "do@9(post++@20(pick@12(a@10, b@14, c@18)))"},
		{"break;", "break@9"}, {"continue;", "next@9"}, {"return;", "return@9"}, {"return a;", "return@9(a@16)"}, {"return (a);", "return@9(a@17)"}, {"return a = b;", "return@9(set=@18(a@16, b@20))"},
		{";", "nothing@9"}, {"\n ;", "nothing@11"},
		{"switch (a) {}", "switch@9(a@17)"},
	} {
		parses(t, within, c[0], c[1])
	}
}

func TestCompoundActions(t *testing.T) {
	for _, c := range [][2]string{
		{"if (a) {}", "if@9(a@13, block@16)"}, {"if (a) {b;} else {c;}", "if@9(a@13, block@16(do@17(b@17)), block@26(do@27(c@27)))"},
		{"if (a) b; else c;", "if@9(a@13, block@16(do@16(b@16)), block@24(do@24(c@24)))"},
		{"if (a) ; else ;", "if@9(a@13, block@16(nothing@16), block@23(nothing@23))"},
		{"if (a) int x; else int *y;", "if@9(a@13, block@16(local x:int@20), block@28(local y:ptr@33))"},
		{"if (a) (b); else (c);", "if@9(a@13, block@16(do@16(b@17)), block@26(do@26(c@27)))"},
		{"if (a) if (b) c; else d;", "if@9(a@13, block@16(if@16(b@20, block@23(do@23(c@23)), block@31(do@31(d@31)))))"},
		{"if (a) {if (b) c;} else d;", "if@9(a@13, block@16(if@17(b@21, block@24(do@24(c@24)))), block@33(do@33(d@33)))"},
		{"if (a) if (b) c; else d; else e;", "if@9(a@13, block@16(if@16(b@20, block@23(do@23(c@23)), block@31(do@31(d@31)))), block@39(do@39(e@39)))"},
		{"if (a) while (b) if (c) d; else e;", "if@9(a@13, block@16(while@16(b@23, block@26(if@26(c@30, block@33(do@33(d@33)), block@41(do@41(e@41)))))))"},
		{"if (a) do if (b) c; while (d); else e;", "if@9(a@13, block@16(until@16(block@19(if@19(b@23, block@26(do@26(c@26)))), d@36)), block@45(do@45(e@45)))"},
		{"if (a) b; else if (c) d; else e;", "if@9(a@13, block@16(do@16(b@16)), block@24(if@24(c@28, block@31(do@31(d@31)), block@39(do@39(e@39)))))"},
		{"while (a = b) {c;}", "while@9(set=@18(a@16, b@20), block@23(do@24(c@24)))"}, {"while (a) break;", "while@9(a@16, block@19(break@19))"}, {"while ((a)) continue;", "while@9(a@17, block@21(next@21))"},
		{"do {a;} while (b);", "until@9(block@12(do@13(a@13)), b@24)"}, {"do a; while (b);", "until@9(block@12(do@12(a@12)), b@22)"}, {"do ; while (b ? c : d);", "until@9(block@12(nothing@12), pick@23(b@21, c@25, d@29))"},
		{"do do a; while (b); while (c);", "until@9(block@12(until@12(block@15(do@15(a@15)), b@25)), c@36)"},
		{"do while (a) b; while (c);", "until@9(block@12(while@12(a@19, block@22(do@22(b@22)))), c@32)"},
		{"while (a) return 1;", "while@9(a@16, block@19(return@19(1@26)))"},
		{"while (a) switch (b) {}", "while@9(a@16, block@19(switch@19(b@27)))"},
	} {
		parses(t, within, c[0], c[1])
	}
}

func TestFor(t *testing.T) {
	for _, c := range [][2]string{
		{"for (;;) {}", "for@9(nothing@14, nothing@15, nothing@16, block@18)"},
		{"for ( ; ; ) ;", "for@9(nothing@15, nothing@17, nothing@19, block@21(nothing@21))"},
		{"for (a;;) b;", "for@9(do@14(a@14), nothing@16, nothing@17, block@19(do@19(b@19)))"},
		{"for (;a;) b;", "for@9(nothing@14, a@15, nothing@17, block@19(do@19(b@19)))"},
		{"for (;;a) b;", "for@9(nothing@14, nothing@15, do@16(a@16), block@19(do@19(b@19)))"},
		{"for (int i;;) {}", "for@9(local i:int@18, nothing@20, nothing@21, block@23)"},
		{"for (int *p = a; (p); (p)++) {b;}", "for@9(local p:ptr@19(a@23), p@27, do@31(post++@34(p@32)), block@38(do@39(b@39)))"},
		{"for (i = 0; i < 3; i += 1) int x = i;", "for@9(do@14(set=@16(i@14, 0@18)), two<@23(i@21, 3@25), do@28(set+=@30(i@28, 1@33)), block@36(local x:int@40(i@44)))"},
		{"for (;;) for (;;) break;", "for@9(nothing@14, nothing@15, nothing@16, block@18(for@18(nothing@23, nothing@24, nothing@25, block@27(break@27))))"},
		{"if (a) for (;;) if (b) c; else d;", "if@9(a@13, block@16(for@16(nothing@21, nothing@22, nothing@23, block@25(if@25(b@29, block@32(do@32(c@32)), block@40(do@40(d@40)))))))"},
	} {
		parses(t, within, c[0], c[1])
	}
}

func TestSwitch(t *testing.T) {
	for _, c := range [][2]string{
		{"switch (a) {case 1: b; default: c;}", "switch@9(a@17, case@21(1@26), do@29(b@29), default@32, do@41(c@41))"},
		{"switch (a) {b; default: case 1: case 2: default:}", "switch@9(a@17, do@21(b@21), default@24, case@33(1@38), case@41(2@46), default@49)"},
		{"switch (a) {case a ? b : c: ;}", "switch@9(a@17, case@21(pick@28(a@26, b@30, c@34)), nothing@37)"},
		{"switch (a) {case b = c: {d;} int x; break;}", "switch@9(a@17, case@21(set=@28(b@26, c@30)), block@33(do@34(d@34)), local x:int@42, break@45)"},
		{"switch (a) {switch (b) {case 1:} case 2:}", "switch@9(a@17, switch@21(b@29, case@33(1@38)), case@42(2@47))"},
		{"switch (a) {if (b) c; else d; case -1:}", "switch@9(a@17, if@21(b@25, block@28(do@28(c@28)), block@36(do@36(d@36))), case@39(one-@44(1@45)))"},
	} {
		parses(t, within, c[0], c[1])
	}
}

// TestNodesOfUnit compares whole nodes, not what show writes of them.
func TestNodesOfUnit(t *testing.T) {
	got, f := Unit("int f(int x) { return x; }")
	want := []api.Node{
		{Kind: api.TopParam, Text: "x", N: api.TypeInt, At: 10},
		{Kind: api.IsName, Text: "x", At: 22},
		{Kind: api.DoReturn, Kids: []int{1}, At: 15},
		{Kind: api.DoBlock, Kids: []int{2}, At: 13},
		{Kind: api.TopFunc, Text: "f", N: api.TypeInt, Kids: []int{0, 3}, At: 4},
		{Kind: api.TopUnit, Kids: []int{4}},
	}
	if f != (api.Fault{}) || !alike(got, api.Tree{Nodes: want}) {
		t.Errorf("%+v, %v; want %+v", got, f, want)
	}
	got, f = Unit(" int a[3] = {1}; int *p = a; void g() {int *q; for (;;) ;}")
	want = []api.Node{
		{Kind: api.IsNum, N: 1, At: 13},
		{Kind: api.TopVar, Text: "a", N: api.TypeArray, Size: 3, Kids: []int{0}, At: 5},
		{Kind: api.IsName, Text: "a", At: 26},
		{Kind: api.TopVar, Text: "p", N: api.TypePtr, Kids: []int{2}, At: 22},
		{Kind: api.DoVar, Text: "q", N: api.TypePtr, At: 44},
		{Kind: api.DoNothing, At: 52}, {Kind: api.DoNothing, At: 53}, {Kind: api.DoNothing, At: 54}, {Kind: api.DoNothing, At: 56},
		{Kind: api.DoBlock, Kids: []int{8}, At: 56},
		{Kind: api.DoFor, Kids: []int{5, 6, 7, 9}, At: 47},
		{Kind: api.DoBlock, Kids: []int{4, 10}, At: 38},
		{Kind: api.TopFunc, Text: "g", N: api.TypeVoid, Kids: []int{11}, At: 34},
		{Kind: api.TopUnit, Kids: []int{1, 3, 12}},
	}
	if f != (api.Fault{}) || !alike(got, api.Tree{Nodes: want}) {
		t.Errorf("%+v, %v; want %+v", got, f, want)
	}
	got, f = Unit("")
	if f != (api.Fault{}) || !alike(got, api.Tree{Nodes: []api.Node{{Kind: api.TopUnit}}}) {
		t.Errorf("the empty text: %+v, %v", got, f)
	}
}
