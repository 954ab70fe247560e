// Package precedence tells how tightly the operators of expressions bind: those of a higher level bind more.
package precedence

// Levels of operators. Those from 1 to 11 are the levels of R3.1; the ones that have no name here only Of tells.
const (
	Set     = 1 // assignments and ? :
	Or      = 2
	And     = 3
	Prefix  = 12
	Postfix = 13
	Primary = 14 // no operator outside parentheses
)

// Of is the level of an operator of the levels 2 to 11, which stand between two operands; 0, if the text is none of these.
func Of(text string) int {
	switch text {
	case "||":
		return Or
	case "&&":
		return And
	case "|":
		return 4
	case "^":
		return 5
	case "&":
		return 6
	case "==", "!=":
		return 7
	case "<", "<=", ">", ">=":
		return 8
	case "<<", ">>":
		return 9
	case "+", "-":
		return 10
	case "*", "/", "%":
		return 11
	}
	return 0
}
