package parse

import (
	"turnery/api"
	"turnery/precedence"
)

// pairKind is the kind of the node of an operator of a level.
func pairKind(level int) int {
	if level == precedence.Or || level == precedence.And {
		return api.IsBoth
	}
	return api.IsTwo
}

// prefixKind is the kind of the node of an operator ahead of its operand; 0, if the text is none.
func prefixKind(text string) int {
	switch text {
	case "-", "!", "~", "*", "&":
		return api.IsOne
	case "++", "--":
		return api.IsStep
	}
	return 0
}

func isSet(text string) bool {
	switch text {
	case "=", "+=", "-=", "*=", "/=", "%=", "&=", "|=", "^=", "<<=", ">>=":
		return true
	}
	return false
}
