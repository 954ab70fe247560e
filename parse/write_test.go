package parse

import (
	"math/rand"
	"strings"
	"testing"

	"turnery/api"
)

// writer writes a random text and the tree that R3.1 to R3.3 give it, token by token.
// At of its nodes is the number of a token, or -1 for the offset 0, until all is written.
type writer struct {
	r       *rand.Rand
	text    strings.Builder
	offsets []int
	nodes   []api.Node
}

// next is the number of the token that is written next.
func (w *writer) next() int { return len(w.offsets) }

func (w *writer) pick(list ...string) string { return list[w.r.Intn(len(list))] }

func (w *writer) chance(one int) bool { return w.r.Intn(one) == 0 }

// put writes a token, behind a gap if it needs one, and tells its number.
func (w *writer) put(t string) int {
	const alone = ";,()[]{}~?:"
	text := w.text.String()
	if text != "" && !strings.Contains(alone, t[:1]) && !strings.Contains(alone, text[len(text)-1:]) {
		w.text.WriteByte(' ')
	}
	if w.chance(8) {
		w.text.WriteString(w.pick(" ", "\n", "\t\n ", " /* ( */", " // )\n", " /**/"))
	}
	w.offsets = append(w.offsets, w.text.Len())
	w.text.WriteString(t)
	return len(w.offsets) - 1
}

// add puts n behind its kids, and tells its number.
func (w *writer) add(n api.Node, kids ...int) int {
	n.Kids = kids
	w.nodes = append(w.nodes, n)
	return len(w.nodes) - 1
}

func (w *writer) name() string { return w.pick("x", "y", "_1", "longestname_", "If", "f") }

// expr writes an expression for a place that takes operators of a level and of higher ones. The levels of R3.1 go on: 12 for prefix operators, 13 for postfix ones, 14 for the rest.
func (w *writer) expr(level, high int) int {
	own := 1 + w.r.Intn(14)
	if high < 2 {
		own = 14
	}
	if own >= level && !w.chance(10) {
		return w.operation(own, high-1)
	}
	w.put("(")
	k := w.operation(own, high-1)
	w.put(")")
	return k
}

func (w *writer) operation(level, high int) int {
	switch {
	case level == 1:
		return w.assignment(w.expr(2, high), high)
	case level < 12:
		left := w.expr(level, high)
		sign := w.pick(levels[level-1]...)
		kind := api.IsTwo
		if level < 4 {
			kind = api.IsBoth
		}
		at := w.put(sign)
		return w.add(api.Node{Kind: kind, Text: sign, At: at}, left, w.expr(level+1, high))
	case level == 12:
		sign := w.pick("-", "!", "~", "*", "&", "++", "--")
		kind := api.IsOne
		if len(sign) == 2 {
			kind = api.IsStep
		}
		at := w.put(sign)
		return w.add(api.Node{Kind: kind, Text: sign, At: at}, w.expr(12, high))
	case level == 13:
		return w.postfix(w.expr(13, high), high)
	}
	return w.leaf(high)
}

func (w *writer) assignment(left, high int) int {
	sign := w.pick(levels[0]...)
	at := w.put(sign)
	if sign != "?" {
		return w.add(api.Node{Kind: api.IsSet, Text: sign, At: at}, left, w.expr(1, high))
	}
	mid := w.expr(1, high)
	w.put(":")
	return w.add(api.Node{Kind: api.IsPick, At: at}, left, mid, w.expr(1, high))
}

func (w *writer) postfix(left, high int) int {
	sign := w.pick("[", "[", "++", "--")
	at := w.put(sign)
	if sign != "[" {
		return w.add(api.Node{Kind: api.IsStep, Text: sign, N: 1, At: at}, left)
	}
	index := w.expr(1, high)
	w.put("]")
	return w.add(api.Node{Kind: api.IsIndex, At: at}, left, index)
}

func (w *writer) leaf(high int) int {
	switch {
	case w.chance(3):
		n := w.r.Intn(7)
		return w.add(api.Node{Kind: api.IsNum, N: []int{0, 1, 42, 97, 10, 255, 9223372036854775807}[n], At: w.put([]string{"0", "1", "42", "'a'", `'\n'`, "0xfF", "9223372036854775807"}[n])})
	case high < 2 || w.chance(2):
		name := w.name()
		return w.add(api.Node{Kind: api.IsName, Text: name, At: w.put(name)})
	}
	name := w.name()
	at := w.put(name)
	return w.add(api.Node{Kind: api.IsCall, Text: name, At: at}, w.list("(", ")", 4, func() int { return w.expr(1, high) })...)
}

// list writes fewer items than most.
func (w *writer) list(open, end string, most int, item func() int) []int {
	var kids []int
	w.put(open)
	for i := w.r.Intn(most); i > 0; i-- {
		kids = append(kids, item())
		if i > 1 {
			w.put(",")
		}
	}
	w.put(end)
	return kids
}

// declared writes a type and a name.
func (w *writer) declared(kind int) api.Node {
	n := api.Node{Kind: kind, N: api.TypeInt, Text: w.name()}
	w.put("int")
	if w.chance(3) {
		w.put("*")
		n.N = api.TypePtr
	}
	n.At = w.put(n.Text)
	return n
}

func (w *writer) initial(high int) []int {
	if w.chance(2) {
		return nil
	}
	w.put("=")
	return []int{w.expr(1, high)}
}

func (w *writer) block(high int) int {
	at := w.put("{")
	var kids []int
	for high > 1 && !w.chance(3) {
		kids = append(kids, w.action(high-1, false))
	}
	w.put("}")
	return w.add(api.Node{Kind: api.DoBlock, At: at}, kids...)
}

// body writes a block, or an action that becomes the only one of a block; shut: it may not end with an if that has no else.
func (w *writer) body(high int, shut bool) int {
	if w.chance(2) {
		return w.block(high)
	}
	at := w.next()
	kid := w.action(high-1, shut)
	if w.nodes[kid].Kind == api.DoBlock {
		return kid
	}
	return w.add(api.Node{Kind: api.DoBlock, At: at}, kid)
}

func (w *writer) condition(high int) int {
	w.put("(")
	k := w.expr(1, high)
	w.put(")")
	return k
}

func (w *writer) nothing() int { return w.add(api.Node{Kind: api.DoNothing, At: w.next()}) }

func (w *writer) effect(high int) int {
	at := w.next()
	return w.add(api.Node{Kind: api.DoExpr, At: at}, w.expr(1, high))
}

func (w *writer) local(high int) int {
	n := w.declared(api.DoVar)
	return w.add(n, w.initial(high)...)
}

// ended writes the semicolon behind an action.
func (w *writer) ended(k int) int {
	w.put(";")
	return k
}

func (w *writer) action(high int, shut bool) int {
	if high > 1 && w.chance(2) {
		return w.compound(high, shut)
	}
	switch w.r.Intn(7) {
	case 0:
		return w.ended(w.local(high))
	case 1:
		return w.ended(w.add(api.Node{Kind: api.DoBreak, At: w.put("break")}))
	case 2:
		return w.ended(w.add(api.Node{Kind: api.DoNext, At: w.put("continue")}))
	case 3:
		return w.ended(w.add(api.Node{Kind: api.DoReturn, At: w.put("return")}))
	case 4:
		at := w.put("return")
		return w.ended(w.add(api.Node{Kind: api.DoReturn, At: at}, w.expr(1, high)))
	case 5:
		return w.ended(w.nothing())
	}
	return w.ended(w.effect(high))
}

func (w *writer) compound(high int, shut bool) int {
	n := api.Node{At: w.next()}
	switch w.r.Intn(6) {
	case 0:
		return w.block(high)
	case 1:
		return w.choice(high, shut)
	case 2:
		w.put("while")
		n.Kind = api.DoWhile
		e := w.condition(high)
		return w.add(n, e, w.body(high, shut))
	case 3:
		w.put("do")
		n.Kind = api.DoUntil
		b := w.body(high, false)
		w.put("while")
		return w.ended(w.add(n, b, w.condition(high)))
	case 4:
		return w.loop(high, shut)
	}
	w.put("switch")
	n.Kind = api.DoSwitch
	kids := []int{w.condition(high)}
	w.put("{")
	for !w.chance(4) {
		kids = append(kids, w.inSwitch(high-1))
	}
	w.put("}")
	return w.add(n, kids...)
}

func (w *writer) choice(high int, shut bool) int {
	at := w.put("if")
	e := w.condition(high)
	other := shut || w.chance(2)
	kids := []int{e, w.body(high, other)}
	if other {
		w.put("else")
		kids = append(kids, w.body(high, shut))
	}
	return w.add(api.Node{Kind: api.DoIf, At: at}, kids...)
}

func (w *writer) loop(high int, shut bool) int {
	at := w.put("for")
	w.put("(")
	var kids []int
	switch w.r.Intn(3) {
	case 0:
		kids = append(kids, w.nothing())
	case 1:
		kids = append(kids, w.local(high))
	default:
		kids = append(kids, w.effect(high))
	}
	w.put(";")
	if w.chance(2) {
		kids = append(kids, w.nothing())
	} else {
		kids = append(kids, w.expr(1, high))
	}
	w.put(";")
	if w.chance(2) {
		kids = append(kids, w.nothing())
	} else {
		kids = append(kids, w.effect(high))
	}
	w.put(")")
	return w.add(api.Node{Kind: api.DoFor, At: at}, append(kids, w.body(high, shut))...)
}

func (w *writer) inSwitch(high int) int {
	switch w.r.Intn(4) {
	case 0:
		at := w.put("case")
		e := w.expr(1, high)
		w.put(":")
		return w.add(api.Node{Kind: api.DoCase, At: at}, e)
	case 1:
		at := w.put("default")
		w.put(":")
		return w.add(api.Node{Kind: api.DoElse, At: at})
	}
	return w.action(max(high, 1), false)
}

func (w *writer) global(high int) int {
	switch w.r.Intn(5) {
	case 0:
		n := w.declared(api.TopVar)
		return w.ended(w.add(n, w.initial(high)...))
	case 1:
		return w.array(high)
	}
	n := api.Node{Kind: api.TopFunc, Text: w.name()}
	if w.chance(3) {
		w.put("void")
		n.At = w.put(n.Text)
	} else {
		n = w.declared(api.TopFunc)
	}
	kids := w.list("(", ")", 4, func() int { return w.add(w.declared(api.TopParam)) })
	return w.add(n, append(kids, w.block(high))...)
}

func (w *writer) array(high int) int {
	n := api.Node{Kind: api.TopVar, Text: w.name(), N: api.TypeArray}
	w.put("int")
	n.At = w.put(n.Text)
	w.put("[")
	size := w.r.Intn(4)
	n.Size = []int{1, 3, 200, 97}[size]
	w.put([]string{"1", "3", "0xc8", "'a'"}[size])
	w.put("]")
	var kids []int
	if w.chance(2) {
		w.put("=")
		kids = w.list("{", "}", min(n.Size+1, 5), func() int { return w.expr(1, high) })
	}
	return w.ended(w.add(n, kids...))
}

// unit writes up to many globals.
func (w *writer) unit(many, high int) {
	var kids []int
	for n := w.r.Intn(many + 1); n > 0; n-- {
		kids = append(kids, w.global(high))
	}
	w.add(api.Node{Kind: api.TopUnit, At: -1}, kids...)
}

// finish is what was written, and its tree, or the fault that is too much of it.
func (w *writer) finish() (string, api.Tree, api.Fault) {
	deep := make([]int, len(w.nodes))
	for k := range w.nodes {
		n := &w.nodes[k]
		for _, kid := range n.Kids {
			deep[k] = max(deep[k], deep[kid])
		}
		deep[k]++
		if n.At < 0 {
			n.At = 0
		} else {
			n.At = w.offsets[n.At]
		}
	}
	text := w.text.String()
	switch {
	case len(text) > api.MaxText:
		return text, api.Tree{}, api.Fault{Code: api.ErrMany}
	case len(w.offsets) > api.MaxTokens:
		return text, api.Tree{}, api.Fault{Code: api.ErrMuch, At: w.offsets[api.MaxTokens]}
	case len(w.nodes) > api.MaxNodes || deep[len(deep)-1] > api.MaxDeep:
		return text, api.Tree{}, api.Fault{Code: api.ErrMuch}
	}
	return text, api.Tree{Nodes: w.nodes}, api.Fault{}
}

func written(t *testing.T, parse parser, w *writer, codes map[int]int) {
	t.Helper()
	text, want, wantFault := w.finish()
	got, f := parse(text)
	if f != wantFault || !alike(got, want) {
		t.Fatalf("%q:\n got %+v, %v\nwant %+v, %v", text, got, f, want, wantFault)
	}
	codes[f.Code]++
}

func TestWrittenExprs(t *testing.T) {
	r := rand.New(rand.NewSource(1))
	codes := map[int]int{}
	for i := range 20000 {
		w := &writer{r: r}
		w.expr(1, 2+i%7)
		written(t, Expr, w, codes)
	}
	if codes[api.OK] < 15000 {
		t.Errorf("codes: %v", codes)
	}
}

func TestWrittenUnits(t *testing.T) {
	r := rand.New(rand.NewSource(2))
	codes := map[int]int{}
	for i := range 20000 {
		w := &writer{r: r}
		w.unit(1+i%6, 1+i%8)
		written(t, Unit, w, codes)
	}
	if codes[api.OK] < 15000 {
		t.Errorf("codes: %v", codes)
	}
}
