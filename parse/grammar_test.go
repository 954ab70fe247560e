package parse

import (
	"fmt"
	"math/rand"
	"strings"
	"testing"

	"turnery/api"
	"turnery/token"
)

// grammar is that of R3.1 and R3.2: a symbol, and what it can be; NAME and NUM are tokens, as is each word that is no symbol.
// It need not tell to which `if` an `else` belongs.
const grammar = `
unit
unit unit top
top var ;
top int NAME [ NUM ] ;
top int NAME [ NUM ] = { args } ;
top type NAME ( params ) block
top void NAME ( params ) block
type int
type int *
var type NAME
var type NAME = e1
params
params paramlist
paramlist type NAME
paramlist paramlist , type NAME
block { actions }
actions
actions actions action
action block
action var ;
action e1 ;
action if ( e1 ) action
action if ( e1 ) action else action
action while ( e1 ) action
action do action while ( e1 ) ;
action for ( start ; test ; effect ) action
action switch ( e1 ) { cases }
action break ;
action continue ;
action return ;
action return e1 ;
action ;
start
start var
start e1
test
test e1
effect
effect e1
cases
cases cases action
cases cases case e1 :
cases cases default :
args
args arglist
arglist e1
arglist arglist , e1
e1 e2
e1 e2 ? e1 : e1
e12 e13
e13 e14
e13 e13 [ e1 ]
e13 e13 ++
e13 e13 --
e14 NUM
e14 NAME
e14 ( e1 )
e14 NAME ( args )
`

// rules are the lines of the grammar, with a line for each operator.
func rules() [][]string {
	var list [][]string
	for _, line := range strings.Split(strings.TrimSpace(grammar), "\n") {
		list = append(list, strings.Fields(line))
	}
	for k, signs := range levels {
		left, right := fmt.Sprint("e", k+1), fmt.Sprint("e", k+2)
		if k > 0 {
			list = append(list, []string{left, right})
		}
		for _, sign := range signs {
			switch {
			case k > 0:
				list = append(list, []string{left, left, sign, right})
			case sign != "?":
				list = append(list, []string{left, right, sign, left})
			}
		}
	}
	for _, sign := range strings.Fields("- ! ~ * & ++ --") {
		list = append(list, []string{"e12", sign, "e12"})
	}
	return list
}

// item is a rule of which the symbols ahead of dot have been found, from the token from on.
type item struct{ rule, dot, from int }

// recognizer is Earley's: after each token it knows all items, and so all tokens that can continue the text.
type recognizer struct {
	rules [][]string
	of    map[string][]int // the rules of a symbol
	empty map[string]bool  // the symbols that can be nothing
}

func newRecognizer() *recognizer {
	g := &recognizer{rules: rules(), of: map[string][]int{}, empty: map[string]bool{}}
	for k, r := range g.rules {
		g.of[r[0]] = append(g.of[r[0]], k)
		// In this grammar a symbol that can be nothing has a rule without symbols.
		if len(r) == 1 {
			g.empty[r[0]] = true
		}
	}
	return g
}

// bad is the number of the first token that cannot continue a text that is a goal: their number, if one is missing at the end; -1, if there is none.
func (g *recognizer) bad(tokens []string, goal string) int {
	var sets [][]item
	start := g.closed(sets, g.predicted(goal, 0))
	for k, t := range tokens {
		sets = append(sets, start)
		start = nil
		for _, i := range sets[k] {
			if r := g.rules[i.rule]; i.dot+1 < len(r) && r[i.dot+1] == t {
				start = append(start, item{i.rule, i.dot + 1, i.from})
			}
		}
		if len(start) == 0 {
			return k
		}
		start = g.closed(sets, start)
	}
	for _, i := range start {
		if r := g.rules[i.rule]; r[0] == goal && i.from == 0 && i.dot+1 == len(r) {
			return -1
		}
	}
	return len(tokens)
}

func (g *recognizer) predicted(symbol string, at int) []item {
	var list []item
	for _, k := range g.of[symbol] {
		list = append(list, item{k, 0, at})
	}
	return list
}

// closed adds to a set, which comes behind the others, all that follows from it.
func (g *recognizer) closed(sets [][]item, set []item) []item {
	have := map[item]bool{}
	var list []item
	add := func(more ...item) {
		for _, i := range more {
			if !have[i] {
				have[i] = true
				list = append(list, i)
			}
		}
	}
	add(set...)
	for n := 0; n < len(list); n++ {
		i := list[n]
		r := g.rules[i.rule]
		if i.dot+1 < len(r) {
			add(g.predicted(r[i.dot+1], len(sets))...)
			if g.empty[r[i.dot+1]] {
				add(item{i.rule, i.dot + 1, i.from})
			}
			continue
		}
		// Nothing was found between the set and itself but what the symbols that can be nothing stand for.
		if i.from == len(sets) {
			continue
		}
		for _, j := range sets[i.from] {
			if q := g.rules[j.rule]; j.dot+1 < len(q) && q[j.dot+1] == r[0] {
				add(item{j.rule, j.dot + 1, j.from})
			}
		}
	}
	return list
}

// terminals are the tokens as the grammar names them.
func terminals(list []api.Token) []string {
	var words []string
	for _, t := range list {
		switch t.Kind {
		case api.TokName:
			words = append(words, "NAME")
		case api.TokNum:
			words = append(words, "NUM")
		default:
			words = append(words, t.Text)
		}
	}
	return words
}

// arrayFault is the first fault of the size or the values of an array among the tokens, which can all stand there; none: no fault.
func arrayFault(list []api.Token) api.Fault {
	for k := 3; k < len(list); k++ {
		number := list[k]
		// Only behind the name of a global that is declared stands a bracket.
		if list[k-1].Text != "[" || list[k-2].Kind != api.TokName || list[k-3].Text != "int" {
			continue
		}
		if number.N < 1 || number.N > api.MaxWords {
			return api.Fault{Code: api.ErrRange, At: number.At}
		}
		if k+3 >= len(list) || list[k+2].Text != "=" {
			continue
		}
		if count, closed := values(list[k+4:]); closed && count > number.N {
			return api.Fault{Code: api.ErrSize, At: list[k+3].At}
		}
	}
	return api.Fault{}
}

// values counts the values of an array up to the brace that ends them.
func values(list []api.Token) (count int, closed bool) {
	deep := 0
	for k, t := range list {
		switch t.Text {
		case "(", "[":
			deep++
		case ")", "]":
			deep--
		case ",":
			if deep == 0 {
				count++
			}
		case "}":
			if k > 0 {
				count++
			}
			return count, true
		}
	}
	return count, false
}

// modelFault is the fault of a text by the grammar, without the limits of trees.
func (g *recognizer) modelFault(text, goal string) api.Fault {
	list, f := token.Scan(text)
	if f != (api.Fault{}) {
		return f
	}
	k := g.bad(terminals(list), goal)
	if k < 0 {
		return arrayFault(list)
	}
	if f := arrayFault(list[:k]); f != (api.Fault{}) {
		return f
	}
	if k < len(list) {
		return api.Fault{Code: api.ErrText, At: list[k].At}
	}
	return api.Fault{Code: api.ErrText, At: len(text)}
}

// vocabulary are tokens to put into texts.
var vocabulary = strings.Fields("int void if else while do for switch case default break continue return x f y 0 1 2 201 'a' ( ) [ ] { } ; , : ? = += == - * & + ! ~ ++ -- && || < << ( ) { } ; x 1 [ 1 ] = { , 2")

// spoilt changes some tokens of a text.
func spoilt(r *rand.Rand, text string) string {
	list, _ := token.Scan(text)
	var words []string
	for _, t := range list {
		words = append(words, t.Text)
	}
	for n := r.Intn(3); n >= 0; n-- {
		k := r.Intn(len(words) + 1)
		word := vocabulary[r.Intn(len(vocabulary))]
		switch r.Intn(8) {
		case 0:
			words = words[:k]
		case 1:
			words = append(words[:k:k], append([]string{word}, words[k:]...)...)
		case 2:
			if k < len(words) {
				words = append(words[:k:k], words[k+1:]...)
			}
		case 3:
			if k < len(words) {
				words[k] = word
			}
		case 4:
			if k+1 < len(words) {
				words[k], words[k+1] = words[k+1], words[k]
			}
		default:
			// The sizes of arrays are among the words behind brackets.
			for i := 1; i < len(words); i++ {
				if words[i-1] == "[" {
					words[i] = []string{"0", "1", "1", "1", "2", "200", "201"}[r.Intn(7)]
				}
			}
		}
	}
	return strings.Join(words, []string{" ", "  ", "\n"}[r.Intn(3)]) + []string{"", " ", " // end"}[r.Intn(3)]
}

// agrees tells the test if a text has another fault than the grammar gives it.
func agrees(t *testing.T, g *recognizer, parse parser, text, goal string, codes map[int]int) {
	t.Helper()
	want := g.modelFault(text, goal)
	got, f := parse(text)
	if f != want || (f == api.Fault{}) != (len(got.Nodes) > 0) {
		t.Fatalf("%q: %v, %d nodes; want %v", text, f, len(got.Nodes), want)
	}
	codes[f.Code]++
}

func TestSpoiltTexts(t *testing.T) {
	r := rand.New(rand.NewSource(3))
	g := newRecognizer()
	codes := map[int]int{}
	for i := range 3000 {
		w := &writer{r: r}
		w.unit(1+i%3, 1+i%4)
		if text, _, f := w.finish(); f == (api.Fault{}) && len(text) < 250 {
			agrees(t, g, Unit, text, "unit", codes)
			agrees(t, g, Unit, spoilt(r, text), "unit", codes)
		}
		w = &writer{r: r}
		w.expr(1, 2+i%3)
		if text, _, f := w.finish(); f == (api.Fault{}) && len(text) < 150 {
			agrees(t, g, Expr, text, "e1", codes)
			agrees(t, g, Expr, spoilt(r, text), "e1", codes)
		}
	}
	if codes[api.OK] < 2000 || codes[api.ErrText] < 2000 || codes[api.ErrRange] < 50 || codes[api.ErrSize] < 5 {
		t.Errorf("codes: %v", codes)
	}
}

// TestRandomTokens grows texts token by token, most of them such that they can go on.
func TestRandomTokens(t *testing.T) {
	r := rand.New(rand.NewSource(4))
	g := newRecognizer()
	codes := map[int]int{}
	for i := range 1500 {
		parse, goal, text := Unit, "unit", []string{"", "int f ( ) {", "int a [ 1 ] = {", "void f ( int x ) { switch ( x ) {"}[r.Intn(4)]
		if i%3 == 0 {
			parse, goal, text = Expr, "e1", ""
		}
		for range r.Intn(20) {
			next := text + " " + vocabulary[r.Intn(len(vocabulary))]
			if f := g.modelFault(next, goal); f == (api.Fault{}) || f.At == len(next) {
				text = next
			}
		}
		agrees(t, g, parse, text, goal, codes)
		agrees(t, g, parse, text+" "+vocabulary[r.Intn(len(vocabulary))], goal, codes)
	}
	if codes[api.OK] < 100 || codes[api.ErrText] < 1000 {
		t.Errorf("codes: %v", codes)
	}
}
