package types_test

import (
	"slices"
	"strings"
	"sync"

	"turnery/api"
	"turnery/scope"
)

// rules of expressions: what stands in them, with a letter for each operand, and behind the last colon what comes of it.
// A capital is a place: L of a number in a local, G of one in memory, P of a pointer. An X is either place of a number, an S each sign that takes two numbers and no other types, a C each sign that compares.
const rules = `-i:i ~i:i !i:i !p:i *p:G &G:p p[i]:G
iSi:i iCi:i pCp:i i+i:i p+i:p i+p:p i-i:i p-p:i p-i:p
i&&i:i i&&p:i p&&i:i p&&p:i i||i:i i||p:i p||i:i p||p:i
i?i:i:i i?p:p:p p?i:i:i p?p:p:p
X=i:i P=p:p X+=i:i P+=i:p X-=i:i P-=i:p XS=i:i
X++:i P++:p X--:i P--:p`

// ruleTable has what each form of an expression comes to.
var ruleTable = sync.OnceValue(func() map[string]string {
	table := map[string]string{}
	for _, rule := range strings.Fields(rules) {
		end := strings.LastIndex(rule, ":")
		for _, sign := range strings.Fields("* / % & | ^ << >>") {
			for _, compare := range strings.Fields("== != < <= > >=") {
				for _, place := range []string{"L", "G"} {
					table[strings.NewReplacer("S", sign, "C", compare, "X", place).Replace(rule[:end])] = rule[end+1:]
				}
			}
		}
	}
	return table
})

// model goes through a unit from the top down and collects all faults.
type model struct {
	nodes  []api.Node
	names  []int
	table  map[string]string
	types  []int
	faults map[int]int
}

// setting is what an action is in.
type setting struct {
	result      string
	left, again bool // by a break, and by a continue
}

// valueOf is the letter of what is in a place, and of what is a value already.
func valueOf(letter string) string {
	switch letter {
	case "L", "G":
		return "i"
	case "P":
		return "p"
	}
	return letter
}

// expr is the letter of an expression; "?" if it is wrong, or something in it.
func (m *model) expr(k int) string {
	n := m.nodes[k]
	var kids, values []string
	for _, kid := range n.Kids {
		kids = append(kids, m.expr(kid))
		values = append(values, valueOf(kids[len(kids)-1]))
	}
	letter := "i"
	switch n.Kind {
	case api.IsName:
		letter = m.name(m.nodes[m.names[k]])
	case api.IsCall:
		letter = m.call(k, strings.Join(values, ""))
	case api.IsIndex:
		letter = m.table[values[0]+"["+values[1]+"]"]
	case api.IsOne:
		letter = m.table[n.Text+values[0]]
		if n.Text == "&" {
			letter = m.table[n.Text+kids[0]]
		}
	case api.IsTwo, api.IsBoth:
		letter = m.table[values[0]+n.Text+values[1]]
	case api.IsPick:
		letter = m.table[values[0]+"?"+values[1]+":"+values[2]]
	case api.IsSet:
		letter = m.table[kids[0]+n.Text+values[1]]
	case api.IsStep:
		letter = m.table[kids[0]+n.Text]
	}
	if letter == "" {
		m.faults[k] = api.ErrType
		return "?"
	}
	m.types[k] = strings.Index("vip", valueOf(letter))
	return letter
}

// name is the letter of a name that is declared so.
func (m *model) name(by api.Node) string {
	switch {
	case by.N == api.TypeArray:
		return "p"
	case by.N == api.TypePtr:
		return "P"
	case by.Kind == api.TopVar:
		return "G"
	}
	return "L"
}

// call is the letter of a call with these arguments.
func (m *model) call(k int, args string) string {
	params, result := "", "i"
	if m.nodes[k].Text == "print" {
		params = "i"
	}
	if by := m.names[k]; by >= 0 {
		params, result = "", "vip"[m.nodes[by].N:][:1]
		for _, kid := range m.nodes[by].Kids {
			if m.nodes[kid].Kind == api.TopParam {
				params += "vip"[m.nodes[kid].N:][:1]
			}
		}
	}
	if args != params {
		return ""
	}
	return result
}

// takes goes through an expression whose value shall have one of the letters; the node k is wrong otherwise.
func (m *model) takes(k, e int, letters string) {
	if m.nodes[e].Kind != api.DoNothing && !strings.Contains(letters, valueOf(m.expr(e))) {
		m.faults[k] = api.ErrType
	}
}

// within goes through actions.
func (m *model) within(kids []int, s setting) {
	for _, kid := range kids {
		m.action(kid, s)
	}
}

// action goes through what is no expression.
func (m *model) action(k int, s setting) {
	n := m.nodes[k]
	loop := setting{s.result, true, true}
	switch n.Kind {
	case api.TopVar, api.DoVar:
		for _, kid := range n.Kids {
			m.takes(k, kid, "?ipi"[n.N:][:1])
		}
	case api.TopFunc:
		m.within(n.Kids, setting{result: "vip"[n.N:][:1]})
	case api.DoExpr:
		m.expr(n.Kids[0])
	case api.DoIf:
		m.takes(k, n.Kids[0], "ip")
		m.within(n.Kids[1:], s)
	case api.DoWhile:
		m.takes(k, n.Kids[0], "ip")
		m.action(n.Kids[1], loop)
	case api.DoUntil:
		m.action(n.Kids[0], loop)
		m.takes(k, n.Kids[1], "ip")
	case api.DoFor:
		m.takes(k, n.Kids[1], "ip")
		m.within([]int{n.Kids[0], n.Kids[2], n.Kids[3]}, loop)
	case api.DoSwitch:
		m.takes(k, n.Kids[0], "i")
		m.within(n.Kids[1:], setting{s.result, true, s.again})
	case api.DoCase:
		m.takes(k, n.Kids[0], "i")
	case api.DoReturn:
		m.returns(k, s)
	case api.DoBreak, api.DoNext:
		if n.Kind == api.DoBreak && !s.left || n.Kind == api.DoNext && !s.again {
			m.faults[k] = api.ErrState
		}
	default:
		m.within(n.Kids, s)
	}
}

func (m *model) returns(k int, s setting) {
	kids := m.nodes[k].Kids
	if len(kids) == 0 && s.result != "v" {
		m.faults[k] = api.ErrType
	}
	for _, kid := range kids {
		m.takes(k, kid, strings.Trim(s.result, "v"))
		if s.result == "v" {
			m.faults[k] = api.ErrType
		}
	}
}

// modelOf is what types.Of shall come to for a tree that is in its form.
func modelOf(t api.Tree) ([]int, api.Fault) {
	names, f := scope.Names(t)
	if f != (api.Fault{}) {
		return nil, f
	}
	m := model{t.Nodes, names, ruleTable(), make([]int, len(t.Nodes)), map[int]int{}}
	m.action(len(t.Nodes)-1, setting{})
	for k := range t.Nodes {
		if m.faults[k] != api.OK {
			return nil, api.Fault{Code: m.faults[k], At: k}
		}
	}
	main := slices.IndexFunc(t.Nodes, func(n api.Node) bool { return n.Kind == api.TopFunc && n.Text == "main" })
	if main < 0 {
		return nil, api.Fault{Code: api.ErrNone}
	}
	if len(t.Nodes[main].Kids) > 1 {
		return nil, api.Fault{Code: api.ErrForm, At: main}
	}
	return m.types, api.Fault{}
}
