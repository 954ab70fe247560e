package print_test

import (
	"strings"
	"testing"

	"turnery/api"
	"turnery/print"
	"turnery/tree"
)

// TestParts prints a node of each kind that is no expression, by itself.
func TestParts(t *testing.T) {
	a, b, one := word("a"), word("b"), num(1)
	empty, none := block(), nothing()
	set := effect(node(api.IsSet, "=", a, b))
	full := block(set)
	i := typed(api.DoVar, api.TypeInt, "i", num(0))
	for _, x := range []struct {
		of   api.Tree
		want string
	}{
		{node(api.TopUnit, ""), ""},
		{node(api.TopUnit, "", typed(api.TopVar, api.TypeInt, "x")), "int x ;"},
		{node(api.TopUnit, "", typed(api.TopVar, api.TypeInt, "x"), typed(api.TopFunc, api.TypeVoid, "f", empty), typed(api.TopVar, api.TypePtr, "p")), "int x ; void f ( ) { } int * p ;"},
		{typed(api.TopVar, api.TypeInt, "x"), "int x ;"}, {typed(api.TopVar, api.TypePtr, "x"), "int * x ;"},
		{typed(api.TopVar, api.TypeInt, "x", one), "int x = 1 ;"}, {typed(api.TopVar, api.TypePtr, "x", node(api.IsOne, "&", a)), "int * x = & a ;"},
		{array("x", 1), "int x [ 1 ] ;"}, {array("x", 200), "int x [ 200 ] ;"}, {array("x", 1, one), "int x [ 1 ] = { 1 } ;"},
		{array("x", 97, one, a), "int x [ 97 ] = { 1 , a } ;"}, {array("x", 3, one, node(api.IsSet, "=", a, b), a), "int x [ 3 ] = { 1 , a = b , a } ;"},
		{typed(api.TopFunc, api.TypeVoid, "f", empty), "void f ( ) { }"}, {typed(api.TopFunc, api.TypeInt, "f", empty), "int f ( ) { }"}, {typed(api.TopFunc, api.TypePtr, "f", full), "int * f ( ) { a = b ; }"},
		{typed(api.TopFunc, api.TypeInt, "f", typed(api.TopParam, api.TypeInt, "x"), empty), "int f ( int x ) { }"},
		{typed(api.TopFunc, api.TypeInt, "f", typed(api.TopParam, api.TypeInt, "x"), typed(api.TopParam, api.TypePtr, "y"), typed(api.TopParam, api.TypeInt, "z"), empty), "int f ( int x , int * y , int z ) { }"},
		{typed(api.TopParam, api.TypeInt, "x"), "int x"}, {typed(api.TopParam, api.TypePtr, "x"), "int * x"},
		{empty, "{ }"}, {full, "{ a = b ; }"}, {block(empty, none, block(none, full), none), "{ { } ; { ; { a = b ; } } ; }"},
		{typed(api.DoVar, api.TypeInt, "x"), "int x ;"}, {typed(api.DoVar, api.TypePtr, "x"), "int * x ;"}, {i, "int i = 0 ;"}, {typed(api.DoVar, api.TypePtr, "x", a), "int * x = a ;"},
		{set, "a = b ;"}, {effect(one), "1 ;"},
		{node(api.DoIf, "", a, empty), "if ( a ) { }"}, {node(api.DoIf, "", a, full, empty), "if ( a ) { a = b ; } else { }"},
		{node(api.DoIf, "", a, empty, block(node(api.DoIf, "", b, full, full))), "if ( a ) { } else { if ( b ) { a = b ; } else { a = b ; } }"},
		{node(api.DoIf, "", a, block(node(api.DoIf, "", b, empty)), full), "if ( a ) { if ( b ) { } } else { a = b ; }"},
		{node(api.DoWhile, "", a, empty), "while ( a ) { }"}, {node(api.DoWhile, "", a, full), "while ( a ) { a = b ; }"},
		{node(api.DoUntil, "", empty, a), "do { } while ( a ) ;"}, {node(api.DoUntil, "", full, a), "do { a = b ; } while ( a ) ;"},
		{node(api.DoFor, "", none, none, none, empty), "for ( ; ; ) { }"}, {node(api.DoFor, "", i, a, set, full), "for ( int i = 0 ; a ; a = b ) { a = b ; }"},
		{node(api.DoFor, "", set, none, none, empty), "for ( a = b ; ; ) { }"}, {node(api.DoFor, "", none, a, none, empty), "for ( ; a ; ) { }"}, {node(api.DoFor, "", none, none, set, empty), "for ( ; ; a = b ) { }"},
		{node(api.DoFor, "", typed(api.DoVar, api.TypePtr, "p"), none, effect(behind("++", a)), empty), "for ( int * p ; ; a ++ ) { }"},
		{node(api.DoSwitch, "", a), "switch ( a ) { }"},
		{node(api.DoSwitch, "", a, node(api.DoCase, "", one), set, node(api.DoBreak, ""), node(api.DoElse, ""), empty, node(api.DoCase, "", node(api.IsPick, "", a, b, one)), i), "switch ( a ) { case 1 : a = b ; break ; default : { } case a ? b : 1 : int i = 0 ; }"},
		{node(api.DoCase, "", one), "case 1 :"}, {node(api.DoCase, "", node(api.IsOne, "-", one)), "case - 1 :"}, {node(api.DoElse, ""), "default :"},
		{node(api.DoBreak, ""), "break ;"}, {node(api.DoNext, ""), "continue ;"}, {node(api.DoReturn, ""), "return ;"}, {node(api.DoReturn, "", one), "return 1 ;"}, {node(api.DoReturn, "", node(api.IsTwo, "+", a, b)), "return a + b ;"},
		{none, ";"},
	} {
		prints(t, x.of, x.want)
		faithful(t, x.of, x.want)
	}
}

func TestUnits(t *testing.T) {
	for _, c := range [][2]string{
		{"", ""}, {" /* nothing */ ", ""}, {"int x;", "int x ;"}, {"int x; int x; ", "int x ; int x ;"}, {"int*x=&y;", "int * x = & y ;"},
		{"int a[3];", "int a [ 3 ] ;"}, {"int a[3]={};", "int a [ 3 ] ;"}, {"int a[0x10]={1,(2),'a'};", "int a [ 16 ] = { 1 , 2 , 97 } ;"}, {"int a['a'];", "int a [ 97 ] ;"},
		{"void f(){if(a)b;else c;}", "void f ( ) { if ( a ) { b ; } else { c ; } }"},
		{"void f(){if(a)if(b)c;else d;}", "void f ( ) { if ( a ) { if ( b ) { c ; } else { d ; } } }"},
		{"void f(){if(a){if(b)c;}else d;}", "void f ( ) { if ( a ) { if ( b ) { c ; } } else { d ; } }"},
		{"void f(){if(a)b;else if(c)d;else;}", "void f ( ) { if ( a ) { b ; } else { if ( c ) { d ; } else { ; } } }"},
		{"void f(){if(a){}else{}}", "void f ( ) { if ( a ) { } else { } }"}, {"void f(){{if(a){{b;}}}}", "void f ( ) { { if ( a ) { { b ; } } } }"},
		{"void f(){while(a)for(;;)do;while(b);}", "void f ( ) { while ( a ) { for ( ; ; ) { do { ; } while ( b ) ; } } }"},
		{"void f(){while((a))int x;}", "void f ( ) { while ( a ) { int x ; } }"},
		{"void f(){for((a=b);(a<b);(a++))(a);}", "void f ( ) { for ( a = b ; a < b ; a ++ ) { a ; } }"},
		{"void f(){switch((a)){case(1):case 0x2:default:b;break;;}}", "void f ( ) { switch ( a ) { case 1 : case 2 : default : b ; break ; ; } }"},
		{"int f(){return(1);}", "int f ( ) { return 1 ; }"}, {"int f(){return(a=b)+c;}", "int f ( ) { return ( a = b ) + c ; }"},
		{
			"int a[3] = {1, 2}; int n;\nint f(int *p, int k) { // sums\n int s = 0; for (int i = 0; i < k; i++) { s += p[i]; if (!s) continue; else break; } return s; }\nint main() { return f(a, 3) - (n - 1); }",
			"int a [ 3 ] = { 1 , 2 } ; int n ; int f ( int * p , int k ) { int s = 0 ; for ( int i = 0 ; i < k ; i ++ ) { s += p [ i ] ; if ( ! s ) { continue ; } else { break ; } } return s ; } int main ( ) { return f ( a , 3 ) - ( n - 1 ) ; }",
		},
	} {
		of := unitOf(t, c[0])
		prints(t, of, c[1])
		faithful(t, of, c[1])
	}
}

// TestPartsOfUnit: the text of each part stands in that of the whole, except for the semicolon that the last part of a for has only by itself.
func TestPartsOfUnit(t *testing.T) {
	whole := unitOf(t, "int a[3] = {1, -2}; int *p = &a; int f(int x, int *y) { int z = (x + 1) * 2; do { if (x) { z++; } else { } } while (z = x); for (int i = 0; i < 3; i++) y[i] = (a[i] = 2) + 1; for (;;) break; switch (x) { case 1: ; default: continue; } while (f(1, (x = y)) ? x && z : !z) { return; } return (-x)[1]; }")
	text, f := print.Text(whole)
	if f != (api.Fault{}) {
		t.Fatal(f)
	}
	last := map[int]bool{}
	for _, n := range whole.Nodes {
		if n.Kind == api.DoFor {
			last[n.Kids[2]] = true
		}
	}
	for k := range whole.Nodes {
		part, _ := tree.Part(whole, k)
		got, f := print.Text(part)
		if f != (api.Fault{}) {
			t.Fatalf("node %d: %v", k, f)
		}
		faithful(t, part, got)
		in := got
		if last[k] {
			in = strings.TrimSuffix(got, ";")
		}
		if !strings.Contains(text, in) {
			t.Errorf("node %d: %q is not in %q", k, got, text)
		}
	}
}
