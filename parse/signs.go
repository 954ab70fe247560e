package parse

import "turnery/api"

// Levels of the operators that stand between two operands, without those of level 1: lower ones bind less.
const (
	levelOr    = 2
	levelAnd   = 3
	lowestPair = levelOr
)

// levelOf is the level of an operator that stands between two operands; 0, if the text is none or is one of level 1.
func levelOf(text string) int {
	switch text {
	case "||":
		return levelOr
	case "&&":
		return levelAnd
	case "|":
		return 4
	case "^":
		return 5
	case "&":
		return 6
	case "==", "!=":
		return 7
	case "<", "<=", ">", ">=":
		return 8
	case "<<", ">>":
		return 9
	case "+", "-":
		return 10
	case "*", "/", "%":
		return 11
	}
	return 0
}

// pairKind is the kind of the node of an operator of a level.
func pairKind(level int) int {
	if level == levelOr || level == levelAnd {
		return api.IsBoth
	}
	return api.IsTwo
}

// prefixKind is the kind of the node of an operator ahead of its operand; 0, if the text is none.
func prefixKind(text string) int {
	switch text {
	case "-", "!", "~", "*", "&":
		return api.IsOne
	case "++", "--":
		return api.IsStep
	}
	return 0
}

func isSet(text string) bool {
	switch text {
	case "=", "+=", "-=", "*=", "/=", "%=", "&=", "|=", "^=", "<<=", ">>=":
		return true
	}
	return false
}
