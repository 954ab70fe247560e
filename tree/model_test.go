package tree

import (
	"regexp"
	"slices"
	"strings"

	"turnery/api"
)

// row is a row of the table of R2.1, copied from the document rather than taken from the package.
// The letters of kids stand for kinds, as letter tells; shape are the kids whatever they are.
type row struct {
	kind        int
	named       bool
	texts       []string
	kids, shape *regexp.Regexp
}

func newRow(kind int, texts, kids string) row {
	r := row{kind: kind, named: texts == "name", texts: strings.Fields(texts), kids: regexp.MustCompile("^" + kids + "$")}
	if texts == "" {
		r.texts = []string{""}
	}
	shape := regexp.MustCompile(`\[[^]]*\]|[A-Za-z0]`).ReplaceAllString(kids, ".")
	if kind == api.TopVar {
		shape = ".{0,200}"
	}
	r.shape = regexp.MustCompile("^" + shape + "$")
	return r
}

// letter: U, V, F, P for TopUnit to TopParam; B, v, x, 0, c, d for DoBlock, DoVar, DoExpr, DoNothing, DoCase, DoElse; a for all other actions; E for expressions.
func letter(kind int) string {
	switch kind {
	case api.TopUnit, api.TopVar, api.TopFunc, api.TopParam:
		return "UVFP"[kind-1 : kind]
	case api.DoBlock:
		return "B"
	case api.DoVar:
		return "v"
	case api.DoExpr:
		return "x"
	case api.DoNothing:
		return "0"
	case api.DoCase:
		return "c"
	case api.DoElse:
		return "d"
	case api.DoIf, api.DoWhile, api.DoUntil, api.DoFor, api.DoSwitch, api.DoBreak, api.DoNext, api.DoReturn:
		return "a"
	}
	return "E"
}

var rows = []row{
	newRow(api.TopUnit, "", "[VF]*"),
	newRow(api.TopVar, "name", "E*"),
	newRow(api.TopFunc, "name", "P*B"),
	newRow(api.TopParam, "name", ""),
	newRow(api.DoBlock, "", "[Bvxa0]*"),
	newRow(api.DoVar, "name", "E?"),
	newRow(api.DoExpr, "", "E"),
	newRow(api.DoIf, "", "EBB?"),
	newRow(api.DoWhile, "", "EB"),
	newRow(api.DoUntil, "", "BE"),
	newRow(api.DoFor, "", "[vx0][E0][x0]B"),
	newRow(api.DoSwitch, "", "E[Bvxa0cd]*"),
	newRow(api.DoCase, "", "E"),
	newRow(api.DoElse, "", ""),
	newRow(api.DoBreak, "", ""),
	newRow(api.DoNext, "", ""),
	newRow(api.DoReturn, "", "E?"),
	newRow(api.DoNothing, "", ""),
	newRow(api.IsNum, "", ""),
	newRow(api.IsName, "name", ""),
	newRow(api.IsCall, "name", "E*"),
	newRow(api.IsIndex, "", "EE"),
	newRow(api.IsOne, "- ! ~ * &", "E"),
	newRow(api.IsTwo, "+ - * / % & | ^ << >> == != < <= > >=", "EE"),
	newRow(api.IsBoth, "&& ||", "EE"),
	newRow(api.IsPick, "", "EEE"),
	newRow(api.IsSet, "= += -= *= /= %= &= |= ^= <<= >>=", "EE"),
	newRow(api.IsStep, "++ --", "E"),
}

func rowOf(kind int) (row, bool) {
	for _, r := range rows {
		if r.kind == kind {
			return r, true
		}
	}
	return row{}, false
}

var modelName = regexp.MustCompile(`^[A-Za-z_][A-Za-z_0-9]{0,11}$`)

// modelNumbers is the column N, Size of R2.1.
func modelNumbers(n api.Node) bool {
	scalar := (n.N == api.TypeInt || n.N == api.TypePtr) && n.Size == 0
	plain := n.N == 0 && n.Size == 0
	switch n.Kind {
	case api.TopVar:
		array := n.N == api.TypeArray && n.Size >= 1 && n.Size <= 200 && n.Size >= len(n.Kids)
		return scalar && len(n.Kids) < 2 || array
	case api.TopFunc:
		return scalar || plain
	case api.TopParam, api.DoVar:
		return scalar
	case api.IsNum:
		return n.N > -1 && n.Size == 0
	case api.IsStep:
		return plain || n.N == 1 && n.Size == 0
	}
	return plain
}

// modelOrder appends the subtree of node k in the order of a walk that comes to a node behind its kids; deep counts the nodes around k and k itself.
func modelOrder(nodes []api.Node, k, deep int, list *[]int, most *int) {
	*most = max(*most, deep)
	for _, kid := range nodes[k].Kids {
		modelOrder(nodes, kid, deep+1, list, most)
	}
	*list = append(*list, k)
}

// modelForm tells whether the subtree of node k is consecutive and its kids are of kinds that may stand there.
func modelForm(nodes []api.Node, k int, r row) (first int, ok bool) {
	kinds := ""
	for _, kid := range nodes[k].Kids {
		if kid < 0 || kid >= k {
			return 0, false
		}
		kinds += letter(nodes[kid].Kind)
	}
	var list []int
	var most int
	modelOrder(nodes, k, 1, &list, &most)
	for i, at := range list {
		if at != k-len(list)+1+i {
			return 0, false
		}
	}
	return list[0], r.kids.MatchString(kinds)
}

// modelCheck is R2.2, written another way than in the package.
func modelCheck(t api.Tree) api.Fault {
	if len(t.Nodes) == 0 || len(t.Nodes) > 600 {
		return api.Fault{Code: api.ErrMany}
	}
	first := 0
	for k, n := range t.Nodes {
		r, known := rowOf(n.Kind)
		if !known {
			return api.Fault{Code: api.ErrKind, At: k}
		}
		if !r.shape.MatchString(strings.Repeat("E", len(n.Kids))) {
			return api.Fault{Code: api.ErrSize, At: k}
		}
		var ok bool
		if first, ok = modelForm(t.Nodes, k, r); !ok {
			return api.Fault{Code: api.ErrForm, At: k}
		}
		if r.named && !modelName.MatchString(n.Text) {
			return api.Fault{Code: api.ErrName, At: k}
		}
		if !r.named && !slices.Contains(r.texts, n.Text) {
			return api.Fault{Code: api.ErrText, At: k}
		}
		if !modelNumbers(n) || n.At < 0 {
			return api.Fault{Code: api.ErrRange, At: k}
		}
	}
	if first != 0 {
		return api.Fault{Code: api.ErrForm, At: len(t.Nodes) - 1}
	}
	var list []int
	var most int
	modelOrder(t.Nodes, len(t.Nodes)-1, 1, &list, &most)
	if most > 40 {
		return api.Fault{Code: api.ErrMuch}
	}
	return api.Fault{}
}
