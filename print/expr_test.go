package print_test

import (
	"math"
	"strings"
	"testing"

	"turnery/api"
)

// place is a text with @ where an operand stands, and the lowest level of operators that R4.1 allows there without parentheses.
type place struct {
	text   string
	lowest int
}

// pairs are the operators of R3.1 from level 2 on.
var pairs = []string{"||", "&&", "|", "^", "&", "== !=", "< <= > >=", "<< >>", "+ -", "* / %"}

const (
	sets     = "= += -= *= /= %= &= |= ^= <<= >>="
	prefixes = "- ! ~ * & ++ --"
)

// fillers are expressions with an operator of each level from 1 on, then prefix ones, postfix ones, and primary expressions.
func fillers() [][]string {
	list := [][]string{{"x ? y : z"}}
	for _, sign := range strings.Fields(sets) {
		list[0] = append(list[0], "x "+sign+" y")
	}
	for _, signs := range pairs {
		var level []string
		for _, sign := range strings.Fields(signs) {
			level = append(level, "x "+sign+" y")
		}
		list = append(list, level)
	}
	var prefixed []string
	for _, sign := range strings.Fields(prefixes) {
		prefixed = append(prefixed, sign+" x")
	}
	return append(list, prefixed, []string{"x [ y ]", "x ++", "x --"}, []string{"x", "7", "f ( )", "f ( x , y )"})
}

// exprPlaces are those of operands, and those that are in an expression but allow any.
func exprPlaces() []place {
	list := []place{
		{"@", 1}, {"@ ? b : c", 2}, {"a ? @ : c", 1}, {"a ? b : @", 1},
		{"@ [ i ]", 13}, {"@ ++", 13}, {"@ --", 13},
		{"a [ @ ]", 1}, {"g ( @ )", 1}, {"g ( @ , b )", 1}, {"g ( a , @ , c )", 1}, {"g ( a , @ )", 1},
	}
	for _, sign := range strings.Fields(sets) {
		list = append(list, place{"@ " + sign + " b", 2}, place{"a " + sign + " @", 1})
	}
	for k, signs := range pairs {
		for _, sign := range strings.Fields(signs) {
			list = append(list, place{"@ " + sign + " b", k + 2}, place{"a " + sign + " @", k + 3})
		}
	}
	for _, sign := range strings.Fields(prefixes) {
		list = append(list, place{sign + " @", 12})
	}
	return list
}

// actionPlaces are those in an action: all of them allow any expression.
var actionPlaces = []string{
	"@ ;", "int v = @ ;", "int * v = @ ;", "return @ ;", "if ( @ ) { }", "if ( @ ) { } else { }", "while ( @ ) { }", "do { } while ( @ ) ;",
	"for ( @ ; ; ) { }", "for ( int v = @ ; ; ) { }", "for ( ; @ ; ) { }", "for ( ; ; @ ) { }", "switch ( @ ) { }", "switch ( 0 ) { case @ : }",
}

func unitPlaces() []place {
	list := []place{{"int v = @ ;", 1}, {"int * v = @ ;", 1}, {"int v [ 1 ] = { @ } ;", 1}, {"int v [ 3 ] = { 1 , @ , 3 } ;", 1}}
	for _, action := range actionPlaces {
		list = append(list, place{"int f ( ) { " + action + " }", 1})
	}
	return list
}

// TestPlaces puts an expression of each level at each place: it needs parentheses exactly if its operator is of a lower level than the place allows.
func TestPlaces(t *testing.T) {
	try := func(tree func(*testing.T, string) api.Tree, places []place) (bare, grouped int) {
		for _, p := range places {
			for k, level := range fillers() {
				for _, filler := range level {
					inParentheses := strings.Replace(p.text, "@", "( "+filler+" )", 1)
					want := inParentheses
					if k+1 >= p.lowest {
						want = strings.Replace(p.text, "@", filler, 1)
						bare++
					} else {
						grouped++
					}
					prints(t, tree(t, inParentheses), want)
				}
			}
		}
		return bare, grouped
	}
	if bare, grouped := try(exprOf, exprPlaces()); bare+grouped != (12+22+36+7)*(12+18+7+3+4) || grouped < 1000 {
		t.Errorf("%d expressions without and %d with parentheses", bare, grouped)
	}
	if bare, grouped := try(unitOf, unitPlaces()); bare != 18*44 || grouped != 0 {
		t.Errorf("%d units without and %d with parentheses", bare, grouped)
	}
}

func TestExprs(t *testing.T) {
	for _, c := range [][2]string{
		{"(1 + 2) * x", "( 1 + 2 ) * x"},
		{"1+2*3", "1 + 2 * 3"}, {"(1+2)+3", "1 + 2 + 3"}, {"1+(2+3)", "1 + ( 2 + 3 )"}, {"a-b-c", "a - b - c"}, {"a-(b-c)", "a - ( b - c )"}, {"a-(b+c)", "a - ( b + c )"},
		{"a||b||c", "a || b || c"}, {"a||(b||c)", "a || ( b || c )"}, {"(a||b)&&c", "( a || b ) && c"}, {"a||(b&&c)", "a || b && c"},
		{"a<b==c", "a < b == c"}, {"a<(b==c)", "a < ( b == c )"}, {"a&b==c", "a & b == c"}, {"(a&b)==c", "( a & b ) == c"},
		{"a=(b=c)", "a = b = c"}, {"(a=b)=c", "( a = b ) = c"}, {"a=(b+=(c=d))", "a = b += c = d"}, {"(a+b)=c", "a + b = c"}, {"(-a)=b", "- a = b"}, {"a+(b=c)", "a + ( b = c )"},
		{"a?b:(c?d:e)", "a ? b : c ? d : e"}, {"(a?b:c)?d:e", "( a ? b : c ) ? d : e"}, {"a?(b?c:d):e", "a ? b ? c : d : e"}, {"a?(b=c):(d=e)", "a ? b = c : d = e"}, {"(a?b:c)=d", "( a ? b : c ) = d"}, {"a?b:c=d", "a ? b : c = d"}, {"(a=b)?c:d", "( a = b ) ? c : d"}, {"a=(b?c:d)", "a = b ? c : d"}, {"(a||b)?c:d", "a || b ? c : d"},
		{"-(-x)", "- - x"}, {"- --x", "- -- x"}, {"--(-x)", "-- - x"}, {"-(-(-1))", "- - - 1"}, {"!(~(*(&x)))", "! ~ * & x"}, {"-(a*b)", "- ( a * b )"}, {"(-a)*b", "- a * b"}, {"a*(-b)", "a * - b"}, {"a-(-b)", "a - - b"}, {"a+(++b)", "a + ++ b"}, {"a- --b", "a - -- b"}, {"a&(&b)", "a & & b"}, {"a*(*b)", "a * * b"},
		{"-(a[i])", "- a [ i ]"}, {"(-a)[i]", "( - a ) [ i ]"}, {"++(x++)", "++ x ++"}, {"(++x)++", "( ++ x ) ++"}, {"(x++)++", "x ++ ++"}, {"(*p)++", "( * p ) ++"}, {"*(p++)", "* p ++"}, {"(a[1])[2]", "a [ 1 ] [ 2 ]"}, {"(a+b)[c+d]", "( a + b ) [ c + d ]"}, {"((a[i])--)[j]", "a [ i ] -- [ j ]"}, {"f(x)[y]", "f ( x ) [ y ]"}, {"7[y]", "7 [ y ]"},
		{"a[b=c]+d", "a [ b = c ] + d"}, {"f(a=b)*c", "f ( a = b ) * c"}, {"-f(a,b)", "- f ( a , b )"}, {"f(g(),(h(1)))", "f ( g ( ) , h ( 1 ) )"},
		{"((((x))))", "x"}, {"(f(((1))))", "f ( 1 )"}, {"0x1F+'a'+'\\n'", "31 + 97 + 10"},
		{"a = b || c && d | e ^ f & g == h < i << j + k * -l[m]", "a = b || c && d | e ^ f & g == h < i << j + k * - l [ m ]"},
		{"((((((((((a * b) + c) << d) < e) == f) & g) ^ h) | i) && j) || k) ? l : m", "a * b + c << d < e == f & g ^ h | i && j || k ? l : m"},
		{"a * (b + (c << (d < (e == (f & (g ^ (h | (i && (j || (k ? l : m))))))))))", "a * ( b + ( c << ( d < ( e == ( f & ( g ^ ( h | ( i && ( j || ( k ? l : m ) ) ) ) ) ) ) ) ) )"},
	} {
		rewritten(t, c[0], c[1])
		// What is printed is printed so again.
		rewritten(t, c[1], c[1])
	}
}

// TestExprNodes prints trees that no parser has made.
func TestExprNodes(t *testing.T) {
	a, b, c := word("a"), word("b"), word("c")
	for _, x := range []struct {
		of   api.Tree
		want string
	}{
		{num(0), "0"}, {num(7), "7"}, {num(31), "31"}, {num(100), "100"}, {num(math.MaxInt), "9223372036854775807"},
		{a, "a"}, {word("_"), "_"}, {word("Abcdefghi_12"), "Abcdefghi_12"},
		{node(api.IsCall, "f"), "f ( )"}, {node(api.IsCall, "f", a), "f ( a )"}, {node(api.IsCall, "f", a, b, c), "f ( a , b , c )"},
		{node(api.IsIndex, "", a, b), "a [ b ]"},
		{node(api.IsTwo, "-", node(api.IsTwo, "-", a, b), c), "a - b - c"}, {node(api.IsTwo, "-", a, node(api.IsTwo, "-", b, c)), "a - ( b - c )"},
		{node(api.IsBoth, "&&", a, b), "a && b"}, {node(api.IsBoth, "||", a, b), "a || b"},
		{node(api.IsPick, "", a, b, c), "a ? b : c"},
		{node(api.IsStep, "++", a), "++ a"}, {behind("++", a), "a ++"}, {node(api.IsStep, "--", a), "-- a"}, {behind("--", a), "a --"},
		{node(api.IsStep, "--", behind("++", a)), "-- a ++"}, {behind("++", node(api.IsStep, "--", a)), "( -- a ) ++"},
		{node(api.IsOne, "-", num(1)), "- 1"}, {behind("--", num(1)), "1 --"},
		{join(api.Node{Kind: api.IsTwo, Text: "+", At: 3}, num(1), join(api.Node{Kind: api.IsName, Text: "x", At: 999})), "1 + x"},
	} {
		prints(t, x.of, x.want)
		faithful(t, x.of, x.want)
	}
	for _, sign := range strings.Fields(oneSigns) {
		prints(t, node(api.IsOne, sign, a), sign+" a")
	}
	for _, sign := range strings.Fields(twoSigns) {
		prints(t, node(api.IsTwo, sign, a, b), "a "+sign+" b")
	}
	for _, sign := range strings.Fields(setSigns) {
		prints(t, node(api.IsSet, sign, a, b), "a "+sign+" b")
	}
}
